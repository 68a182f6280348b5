/- Merged: HaM, HaL, HaR, HaT, HaKa, HaKb, HaW, HaX, HaY, HaU, HaV, HaZ, HaO. -/
import Derived.Test.YtbdhibcbpgjbmaaGreatDoorMgFl1
import Derived.Test.YtbdhibcbpgjbmaaGreatDoorMgFo1
import Derived.Test.YtbdhibcbpgjbmaaGreatDoorMgVe1
import Derived.Test.YtbdhibcbpgjbmaaGreatDoorMgNu1
import Derived.Test.YtbdhibcbpgjbmaaGreatDoorMgVa1
import Derived.Test.YtbdhibcbpgjbmaaGreatDoorMgVa2
import Derived.Test.YtbdhibcbpgjbmaaGreatDoorMgRx1
import Derived.Test.YtbdhibcbpgjbmaaGreatDoorMgBv1
import Derived.Test.YtbdhibcbpgjbmaaGreatDoorMgAr1
/- Layer 19, plain: the first place of an item, the ones that no earlier one is like, those that another list has or not. -/
namespace Go.Proofs.YtbdhibcbpgjbmaaGreatDoor
set_option maxRecDepth 100000
open Go.RowKit Fl
set_option linter.unusedVariables false

/-- The first place of an item; how many there are, if there is none. -/
noncomputable def fndI (l : List PI) (x : PI) : Nat := l.findIdx (fun y => iq y x)
theorem fndI_le (l : List PI) (x : PI) : fndI l x ≤ l.length := List.findIdx_le_length
theorem fndI_hit {l : List PI} {x : PI} {k : Nat} (hk : k < l.length) (h : iq (l[k]) x = true) (hn : ∀ j (hj : j < k), iq (l[j]'(by omega)) x = false) : fndI l x = k := by
  unfold fndI
  rw [List.findIdx_eq hk]
  exact ⟨h, fun j hj => by simpa using hn j hj⟩
theorem fndI_none {l : List PI} {x : PI} (hn : ∀ j (hj : j < l.length), iq (l[j]) x = false) : fndI l x = l.length := by
  unfold fndI
  rw [List.findIdx_eq_length]
  intro y hy
  obtain ⟨j, hj, rfl⟩ := List.mem_iff_getElem.1 hy
  exact hn j hj
/-- The places of those that no earlier one is like. -/
noncomputable def frsL (l : List PI) : List Nat := (List.range l.length).filter (fun i => decide (fndI l (atI l (blankI 0) (i : Int)) = i))
/-- The places of those that another list has, or has not. -/
noncomputable def witP (l m : List PI) (keep : Bool) : List Nat := (List.range l.length).filter (fun i => decide (fndI m (atI l (blankI 0) (i : Int)) < m.length) == keep)
noncomputable def witL (l m : List PI) (keep : Bool) : List PI := l.filter (fun x => decide (fndI m x < m.length) == keep)
theorem filter_range_snoc (p : Nat → Bool) (k : Nat) : ((List.range (k + 1)).filter p) = (List.range k).filter p ++ (if p k then [k] else []) := by
  rw [List.range_succ, List.filter_append]
  congr 1
  by_cases h : p k
  · rw [if_pos h]; simp [h]
  · rw [if_neg h]; simp [h]
theorem frsL_lt {l : List PI} : ∀ x ∈ frsL l, x < l.length := fun x hx => List.mem_range.1 (List.mem_filter.1 hx).1
theorem witP_lt {l m : List PI} {keep : Bool} : ∀ x ∈ witP l m keep, x < l.length := fun x hx => List.mem_range.1 (List.mem_filter.1 hx).1
theorem map_filter_range {α : Type} (l : List α) (d : α) (p : α → Bool) : ((List.range l.length).filter (fun (i : Nat) => p (atI l d (i : Int)))).map (fun (i : Nat) => atI l d (i : Int)) = l.filter p := by
  have e : l = (List.range l.length).map (fun (i : Nat) => atI l d (i : Int)) := by
    apply List.ext_getElem (by simp)
    intro i h1 h2
    rw [List.getElem_map, List.getElem_range, atI_nat h1]
  conv => rhs; rw [e]
  rw [List.filter_map]
  rfl
theorem witP_map (l m : List PI) (keep : Bool) : (witP l m keep).map (fun (i : Nat) => atI l (blankI 0) (i : Int)) = witL l m keep := map_filter_range l (blankI 0) (fun x => decide (fndI m x < m.length) == keep)
theorem wit_parts (l m : List PI) : (witL l m false).length + (witL l m true).length = l.length := by
  unfold witL
  induction l with
  | nil => rfl
  | cons x l ih =>
    rw [List.filter_cons, List.filter_cons]
    cases decide (fndI m x < m.length)
    · rw [if_pos (show (false == false) = true from rfl), if_neg (show ¬ (false == true) = true by decide), List.length_cons, List.length_cons]; omega
    · rw [if_neg (show ¬ (true == false) = true by decide), if_pos (show (true == true) = true from rfl), List.length_cons, List.length_cons]; omega
end Go.Proofs.YtbdhibcbpgjbmaaGreatDoor

/- Layer 19: 'copy' of elements of two cells, as a law for the walk; a row of slots. -/
namespace Go.Proofs.YtbdhibcbpgjbmaaGreatDoor
set_option maxRecDepth 100000
open Go.RowKit
set_option linter.unusedVariables false

theorem run_copy_row2 {P : Program} (w : World) (dT sT ty elem : TypeId) (g o dLen dCap : Nat) (a : Addr) (sLen sCap m : Nat) (cur : Array Value) (t : TypeId) (cs : List Value)
    (hu : P.underlying dT = some (.slice elem)) (hs : (P.info? elem).map (·.size) = some 2)
    (hg : w.heap[g]? = some (.cells cur t (0, 0))) (hn : m = Nat.min sLen dLen) (hcl : cs.length = m * 2)
    (hsrc : ∀ j v, cs[j]? = some v → w.cell? (a.add j) = some v) (hfit : o + cs.length ≤ cur.size) (h1 : ∀ v ∈ cs, v.oneCell' = true) :
    (Builtin.copy_ #[dT, sT] ty #[.slice (some ⟨g, o, none⟩) dLen dCap, .slice (some a) sLen sCap]).run P w =
      .ok (goInt m) (w.setRow g (cur.toList.take o ++ cs ++ cur.toList.drop (o + cs.length)).toArray) := by
  have hl := run_loadCells_list (P := P) w a cs hsrc
  have hst := run_storeCells_at P g o t cs 0 cur w hg (by simpa using hfit) h1
  rw [hcl] at hl
  cases hq : P.info? elem with
  | none => simp [hq] at hs
  | some i =>
    have hi : i.size = 2 := by simpa [hq] using hs
    simp [Builtin.copy_, run_underlying hu, Builtin.lenOf, Builtin.firstCells, sizeOf, typeInfo, hq, hi, ← hn, hl, hst]
theorem run_copy_none2 {P : Program} (w : World) (dT sT ty elem : TypeId) (d a : Option Addr) (dLen dCap sLen sCap : Nat) (hu : P.underlying dT = some (.slice elem)) (hs : (P.info? elem).map (·.size) = some 2) (hn : Nat.min sLen dLen = 0) :
    (Builtin.copy_ #[dT, sT] ty #[.slice d dLen dCap, .slice a sLen sCap]).run P w = .ok (goInt 0) w := by
  cases hq : P.info? elem with
  | none => simp [hq] at hs
  | some i =>
    have hl : ∀ (x : Addr), (loadCells x 0).run P w = .ok #[] w := fun x => by simpa using run_loadCells_list (P := P) w x [] (by simp)
    cases d <;> cases a <;> simp [Builtin.copy_, run_underlying hu, Builtin.lenOf, Builtin.firstCells, sizeOf, typeInfo, hq, hn, storeCells, hl]
theorem wpList_copy_splice2 {P : Program} {w : World} {ops : Array Oper} {rest : List Oper} {o : Oper} {a : Act} {Q : Exit → Act → World → Prop} (hgd : o.guard = none) (d s : Operand) (dT sT : TypeId)
    (ho : o.op = .call { callee := .builtin .copy, args := #[d, s], argTypes := #[dT, sT] }) (elem : TypeId) (hu : P.underlying dT = some (.slice elem)) (hsz : (P.info? elem).map (·.size) = some 2)
    (dp sp : Option Addr) (dLen dCap sLen sCap m : Nat) (hd : a.eval d = .slice dp dLen dCap) (hs : a.eval s = .slice sp sLen sCap)
    (g off : Nat) (cur : List Value) (t : TypeId) (hg : w.heap[g]? = some (.cells cur.toArray t (0, 0))) (cs : List Value) (hn : m = Nat.min sLen dLen) (hcl : cs.length = m * 2)
    (hpos : 0 < m → dp = some ⟨g, off, none⟩ ∧ ∃ ad, sp = some ad ∧ ∀ j v, cs[j]? = some v → w.cell? (ad.add j) = some v)
    (hfit : off + cs.length ≤ cur.length) (h1 : ∀ v ∈ cs, v.oneCell' = true) (B : Nat) (w0 : World) (hb : Below B w0 w) (hBg : B ≤ g)
    (h : ∀ w', Hid (w'.heap[g]? = some (.cells (splice cur off cs).toArray t (0, 0))) → Below B w0 w' → wpList P ops Q rest (a.put o.dst (goInt m)) w') :
    wpList P ops Q (o :: rest) a w := by
  refine wpList_plain hgd fun K hK => ?_
  by_cases h0 : m = 0
  · subst h0
    obtain rfl : cs = [] := List.eq_nil_of_length_eq_zero (by simpa using hcl)
    have hrun := run_copy_none2 (P := P) w dT sT o.type elem dp sp dLen dCap sLen sCap hu hsz hn.symm
    unfold Oper.wp
    simp [execOp, ho, resolve, invoke, builtin, hd, hs, hrun, Result.andThen]
    exact hK _ _ (h w (show _ = _ by simpa [splice] using hg) hb)
  · obtain ⟨rfl, ad, rfl, hsrc⟩ := hpos (by omega)
    have hrun := run_copy_row2 (P := P) w dT sT o.type elem g off dLen dCap ad sLen sCap m cur.toArray t cs hu hsz hg hn hcl hsrc (by simpa using hfit) h1
    unfold Oper.wp
    simp [execOp, ho, resolve, invoke, builtin, hd, hs, hrun, Result.andThen]
    exact hK _ _ (h _ (show _ = _ by simpa [splice] using setRow_heap w g _ _ t _ hg) (below_setRow hb hBg _))
theorem step_copy_splice2 {P : Program} {ops : Array Oper} {o : Oper} {a : Act} {w : World} {K : Act → World → Prop} {Q : Exit → Act → World → Prop} {E : Prop} (hgd : o.guard = none) (d s : Operand) (dT sT : TypeId)
    (ho : o.op = .call { callee := .builtin .copy, args := #[d, s], argTypes := #[dT, sT] }) (elem : TypeId) (hu : P.underlying dT = some (.slice elem)) (hsz : (P.info? elem).map (·.size) = some 2)
    (dp sp : Option Addr) (dLen dCap sLen sCap m : Nat) (hd : a.eval d = .slice dp dLen dCap) (hs : a.eval s = .slice sp sLen sCap)
    (g off : Nat) (cur : List Value) (t : TypeId) (hg : w.heap[g]? = some (.cells cur.toArray t (0, 0))) (cs : List Value) (hn : m = Nat.min sLen dLen) (hcl : cs.length = m * 2)
    (hpos : 0 < m → dp = some ⟨g, off, none⟩ ∧ ∃ ad, sp = some ad ∧ ∀ j v, cs[j]? = some v → w.cell? (ad.add j) = some v)
    (hfit : off + cs.length ≤ cur.length) (h1 : ∀ v ∈ cs, v.oneCell' = true) (B : Nat) (w0 : World) (hb : RowKit.Below B w0 w) (hBg : B ≤ g)
    (h : ∀ w', RowKit.Hid (w'.heap[g]? = some (.cells (splice cur off cs).toArray t (0, 0))) → RowKit.Below B w0 w' → K (a.put o.dst (goInt m)) w') :
    if Region.wanted o (yielded ops a.tmps) = true then Oper.wp P o a w K Q else E := by
  have hw : Region.wanted o (yielded ops a.tmps) = true := by simp [Region.wanted, hgd]
  rw [if_pos hw]
  by_cases h0 : m = 0
  · subst h0
    obtain rfl : cs = [] := List.eq_nil_of_length_eq_zero (by simpa using hcl)
    have hrun := run_copy_none2 (P := P) w dT sT o.type elem dp sp dLen dCap sLen sCap hu hsz hn.symm
    unfold Oper.wp
    simp [execOp, ho, resolve, invoke, builtin, hd, hs, hrun, Result.andThen]
    exact h w (show _ = _ by simpa [splice] using hg) hb
  · obtain ⟨rfl, ad, rfl, hsrc⟩ := hpos (by omega)
    have hrun := run_copy_row2 (P := P) w dT sT o.type elem g off dLen dCap ad sLen sCap m cur.toArray t cs hu hsz hg hn hcl hsrc (by simpa using hfit) h1
    unfold Oper.wp
    simp [execOp, ho, resolve, invoke, builtin, hd, hs, hrun, Result.andThen]
    exact h _ (show _ = _ by simpa [splice] using setRow_heap w g _ _ t _ hg) (below_setRow hb hBg _)

/-- The cells of slots: each a key and a place. -/
def flatH (S : List (Nat × Int)) : List Value := S.flatMap fun t => [.int .u64 (t.1 : Int), .int .i64 t.2]
theorem flatH_len (S : List (Nat × Int)) : (flatH S).length = S.length * 2 := by
  induction S with
  | nil => rfl
  | cons t L ih => simp only [flatH, List.flatMap_cons, List.length_append] at ih ⊢; rw [ih]; simp; omega
theorem flatH_app (P Q : List (Nat × Int)) : flatH (P ++ Q) = flatH P ++ flatH Q := by simp [flatH]
theorem flatH_at {P : List (Nat × Int)} {i : Nat} {p : Nat × Int} (h : P[i]? = some p) : (flatH P)[i * 2]? = some (.int .u64 (p.1 : Int)) ∧ (flatH P)[i * 2 + 1]? = some (.int .i64 p.2) := by
  obtain ⟨hk, e⟩ := List.getElem?_eq_some_iff.1 h
  have hl : P = P.take i ++ ([p] ++ P.drop (i + 1)) := by rw [← e]; simp
  have hlen : (flatH (P.take i)).length = i * 2 := by rw [flatH_len, List.length_take]; omega
  have hf : flatH P = flatH (P.take i) ++ ([.int .u64 (p.1 : Int), .int .i64 p.2] ++ flatH (P.drop (i + 1))) := by
    conv => lhs; rw [hl]
    simp [flatH]
  rw [hf]
  exact ⟨by rw [List.getElem?_append_right (by omega), hlen]; simp, by rw [List.getElem?_append_right (by omega), hlen, Nat.add_sub_cancel_left]; rfl⟩
theorem flatH_none {L : List (Nat × Int)} {j : Nat} (h : L.length * 2 ≤ j) : (flatH L)[j]? = none := by
  apply List.getElem?_eq_none
  rw [flatH_len]; exact h
theorem flatH_set (L : List (Nat × Int)) (k : Nat) (t : Nat × Int) (h : k < L.length) : ((flatH L).set (k * 2) (.int .u64 (t.1 : Int))).set (k * 2 + 1) (.int .i64 t.2) = flatH (L.set k t) := by
  apply List.ext_getElem?
  intro j
  obtain ⟨i, r, hr, rfl⟩ : ∃ i r, r < 2 ∧ j = i * 2 + r := ⟨j / 2, j % 2, by omega, by omega⟩
  have hl : (flatH L).length = L.length * 2 := flatH_len L
  by_cases hi : i < L.length
  · by_cases e : i = k
    · subst e
      obtain ⟨c0, c1⟩ := flatH_at (show (L.set i t)[i]? = some t by rw [List.getElem?_set_self h])
      match r, hr with
      | 0, _ => simp only [Nat.add_zero]; rw [c0]; simp only [List.getElem?_set, List.length_set]; simp; omega
      | 1, _ => rw [c1]; simp only [List.getElem?_set, List.length_set]; simp; omega
    · have h2 : (L.set k t)[i]? = L[i]? := by rw [List.getElem?_set_ne (fun x => e x.symm)]
      have h3 : L[i]? = some L[i] := List.getElem?_eq_getElem hi
      rw [h3] at h2
      obtain ⟨c0, c1⟩ := flatH_at h2
      obtain ⟨e0, e1⟩ := flatH_at h3
      rw [List.getElem?_set_ne (by omega), List.getElem?_set_ne (by omega)]
      match r, hr with
      | 0, _ => simp only [Nat.add_zero]; rw [c0, e0]
      | 1, _ => rw [c1, e1]
  · rw [List.getElem?_set_ne (by omega), List.getElem?_set_ne (by omega), flatH_none (by omega), flatH_none (by rw [List.length_set]; omega)]
/-- A block that holds slots, whole. -/
def RowH (w : World) (b : Nat) (S : List (Nat × Int)) : Prop := w.heap[b]? = some (.cells (flatH S).toArray 110 (0, 0))
theorem RowH.cell {w : World} {b : Nat} {S : List (Nat × Int)} (h : RowH w b S) {i : Nat} {x : Nat × Int} (hx : S[i]? = some x) :
    w.cell? ⟨b, i * 2, none⟩ = some (.int .u64 (x.1 : Int)) ∧ w.cell? ⟨b, i * 2 + 1, none⟩ = some (.int .i64 x.2) := ⟨row_cell h (flatH_at hx).1, row_cell h (flatH_at hx).2⟩
theorem RowH.free {w : World} {b : Nat} {S : List (Nat × Int)} (h : RowH w b S) (i : Nat) : w.frozen? ⟨b, i, none⟩ = false := frozen_of_row w b i _ _ h
theorem RowH.lt {w : World} {b : Nat} {S : List (Nat × Int)} (h : RowH w b S) : b < w.heap.size := lt_heap h
theorem RowH.set {w : World} {b : Nat} {S : List (Nat × Int)} (h : RowH w b S) (i : Nat) (x : Nat × Int) (hi : i < S.length) : RowH ((w.setCell ⟨b, i * 2, none⟩ (.int .u64 (x.1 : Int))).setCell ⟨b, i * 2 + 1, none⟩ (.int .i64 x.2)) b (S.set i x) := by
  have h1 := heap_setCell_same w b (i * 2) _ _ (.int .u64 (x.1 : Int)) h
  have h2 := heap_setCell_same _ b (i * 2 + 1) _ _ (.int .i64 x.2) h1
  unfold RowH
  rw [h2]
  congr 2
  rw [List.setIfInBounds_toArray, List.setIfInBounds_toArray, flatH_set S i x hi]
theorem RowH.below {w w' : World} {b : Nat} {S : List (Nat × Int)} (h : RowH w b S) (hb : Below w.heap.size w w') : RowH w' b S := (hb.block _ h.lt).trans h
theorem RowH.kept {w w' : World} {b c : Nat} {S : List (Nat × Int)} (h : RowH w b S) (hg : w.grownBy w' (some c)) (hne : b ≠ c) : RowH w' b S := (hg.block _ h.lt (by simpa using hne)).trans h

theorem info_slot : (Tryz.prog.info? 110).map (fun i => (i.zero, i.size, i.bytes)) = some (some (.agg #[.int .u64 0, .int .i64 0]), 2, 16) := by kernel_rfl
def zerosH (n : Nat) : Array Value := madeCells (Value.agg #[.int .u64 0, .int .i64 0]).cells (n * 2)
theorem zerosH_list (n : Nat) : (zerosH n).toList = flatH (List.replicate n (0, 0)) := by
  apply List.ext_getElem?
  intro j
  unfold zerosH
  rw [show (Value.agg #[.int .u64 0, .int .i64 0]).cells = #[.int .u64 0, .int .i64 0] from rfl]
  obtain ⟨i, r, hr, rfl⟩ : ∃ i r, r < 2 ∧ j = i * 2 + r := ⟨j / 2, j % 2, by omega, by omega⟩
  by_cases hj : i < n
  · obtain ⟨c0, c1⟩ := flatH_at (show (List.replicate n ((0 : Nat), (0 : Int)))[i]? = some (0, 0) by simp [hj])
    match r, hr with
    | 0, _ => simp only [Nat.add_zero]; rw [c0]; simp [madeCells]; exact ⟨i * 2, by rw [List.getElem?_range (by omega)], by rw [show (i * 2) % 2 = 0 by omega]; rfl⟩
    | 1, _ => rw [c1]; simp [madeCells]; exact ⟨i * 2 + 1, by rw [List.getElem?_range (by omega)], by rw [show (i * 2 + 1) % 2 = 1 by omega]; rfl⟩
  · rw [flatH_none (by simp; omega)]
    apply List.getElem?_eq_none
    simp [madeCells]; omega
theorem run_mkH (n : Nat) (hn : n ≤ 4000000) (w : World) : (Instr.makeSlice 104 (.int .i64 (n : Int)) (.int .i64 (n : Int))).run Tryz.prog w = .ok (.slice (some ⟨w.heap.size, 0, none⟩) n n) (w.alloc (.cells (zerosH n) 110)) := by
  obtain ⟨i0, hi, hz0, hz1, hz2⟩ := info_parts info_slot
  have hr := run_make (P := Tryz.prog) w 104 110 i0 _ Tryz.underlying104 hi hz0 .i64 .i64 n n (by omega) (Int.le_refl _) (by rw [hz2]; omega) (by omega)
  simp only [Int.toNat_natCast, hz1] at hr
  exact hr
theorem RowH.made (n : Nat) (w : World) : RowH (w.alloc (.cells (zerosH n) 110)) w.heap.size (List.replicate n (0, 0)) := by
  have e : zerosH n = (flatH (List.replicate n (0, 0))).toArray := Array.toList_inj.1 (by rw [zerosH_list])
  unfold RowH
  rw [e]
  simp only [World.alloc, Array.getElem?_push_size]
/-- A row of c slots, the first n of them empty ones. -/
def repH (c n : Nat) : List (Nat × Int) := List.replicate n (0, -1) ++ List.replicate (c - n) (0, 0)
theorem repH_len (c n : Nat) (h : n ≤ c) : (repH c n).length = c := by simp [repH]; omega
theorem repH_full (c : Nat) : repH c c = List.replicate c (0, -1) := by simp [repH]
theorem repH_zero (c : Nat) : repH c 0 = List.replicate c (0, 0) := by simp [repH]
theorem repH_get (c n : Nat) {j : Nat} (hj : j < n) : (repH c n)[j]? = some (0, -1) := by
  unfold repH
  rw [List.getElem?_append_left (by simpa using hj), List.getElem?_replicate, if_pos hj]
theorem flatH_take (S : List (Nat × Int)) (n : Nat) : (flatH S).take (n * 2) = flatH (S.take n) := by
  by_cases h : n ≤ S.length
  · conv => lhs; rw [← List.take_append_drop n S, flatH_app]
    rw [List.take_left' (by rw [flatH_len, List.length_take]; omega)]
  · rw [List.take_of_length_le (by rw [flatH_len]; omega), List.take_of_length_le (by omega)]
theorem flatH_drop (S : List (Nat × Int)) (n : Nat) : (flatH S).drop (n * 2) = flatH (S.drop n) := by
  by_cases h : n ≤ S.length
  · conv => lhs; rw [← List.take_append_drop n S, flatH_app]
    rw [List.drop_left' (by rw [flatH_len, List.length_take]; omega)]
  · rw [List.drop_eq_nil_of_le (by rw [flatH_len]; omega), List.drop_eq_nil_of_le (by omega)]; rfl
theorem repH_splice (c n k : Nat) (h : n + k ≤ c) : splice (flatH (repH c n)) (n * 2) (flatH (List.replicate k (0, -1))) = flatH (repH c (n + k)) := by
  unfold splice
  rw [flatH_len, List.length_replicate, ← Nat.add_mul, flatH_take, flatH_drop, ← flatH_app, ← flatH_app]
  congr 1
  unfold repH
  rw [List.take_left' (by simp), ← List.append_assoc, List.replicate_append_replicate, List.drop_append, List.drop_eq_nil_of_le (by simp), List.nil_append, List.drop_replicate]
  congr 2
  simp; omega
end Go.Proofs.YtbdhibcbpgjbmaaGreatDoor

/- Layer 19, walked: slices.Repeat of one slot, empty. Written by tools/gen_har.py. -/
namespace Go.Proofs.YtbdhibcbpgjbmaaGreatDoor
set_option maxRecDepth 100000
open Go.RowKit
set_option linter.unusedVariables false

theorem flatH_one (S : List (Nat × Int)) : ∀ u ∈ flatH S, u.oneCell' = true := by
  intro u hu
  unfold flatH at hu
  obtain ⟨t, _, ht⟩ := List.mem_flatMap.1 hu
  simp at ht
  rcases ht with rfl | rfl <;> rfl
theorem bmul64H_calls (c : Nat) (hc : c ≤ 4000000) (w : World) : Calls Tryz.prog 139 #[.int .u64 1, .int .u64 (c : Int)] w fun e w' => e = .returned (.tuple #[.int .u64 0, .int .u64 (c : Int)]) ∧ w = w' := by
  have a1 : bits BinOp.and IntKind.u64 1 4294967295 = 1 := by decide +kernel
  have a2 : bits BinOp.and IntKind.u64 (c : Int) 4294967295 = (c : Int) := by
    have h := u64_and_nat c 4294967295 (by omega) (by decide)
    have e : c &&& 4294967295 = c := by
      have := Nat.and_two_pow_sub_one_eq_mod c 32
      rw [show (2 : Nat) ^ 32 - 1 = 4294967295 by decide] at this
      rw [this]; exact Nat.mod_eq_of_lt (by omega)
    rw [e] at h
    exact h
  have a3 : ((c : Int) / 4294967296) = 0 := by omega
  go_enter Tryz.func139, Tryz.ntmps139
  go_wp2
  go_ret2
  exact ⟨rfl, rfl⟩
theorem bmulH_calls (c : Nat) (hc : c ≤ 4000000) (w : World) : Calls Tryz.prog 121 #[.int .u64 1, .int .u64 (c : Int)] w fun e w' => e = .returned (.tuple #[.int .u64 0, .int .u64 (c : Int)]) ∧ w = w' := by
  have HC := Lib.hid hc
  go_enter Tryz.func121, Tryz.ntmps121
  go_wp2_with ((with_reducible refine (bmul64H_calls c HC.out _).mono ?_); rintro e w' ⟨rfl, rfl⟩)
  go_ret2
  exact ⟨rfl, rfl⟩

set_option maxHeartbeats 4000000 in
theorem hrepeat_calls (b off cap c : Nat) (w : World) (h0 : w.cell? ⟨b, off, none⟩ = some (.int .u64 0)) (h1 : w.cell? ⟨b, off + 1, none⟩ = some (.int .i64 (-1))) (hc : c ≤ 4000000) :
    Calls Tryz.prog 97 #[.slice (some ⟨b, off, none⟩) 1 cap, .int .i64 (c : Int)] w fun e w' => e = .returned (.slice (some ⟨w.heap.size, 0, none⟩) c c) ∧ RowH w' w.heap.size (List.replicate c (0, -1)) ∧ Below w.heap.size w w' := by
  have HX := Lib.hid (And.intro h0 h1)
  have HC := Lib.hid hc
  have hmk := run_mkH c (by omega) w
  obtain ⟨i0, hi, hz0, hz1, hz2⟩ := info_parts info_slot
  have HSZ := Lib.hid (show (Tryz.prog.info? 110).map (·.size) = some 2 by rw [hi]; simp [hz1])
  clear hi hz0 hz1 hz2
  obtain ⟨W0, hW0⟩ : ∃ W0, W0 = w.alloc (.cells (zerosH c) 110) := ⟨_, rfl⟩
  have HB0 := Lib.hid (show Below w.heap.size w W0 by rw [hW0]; exact below_new _ _)
  have HG0 := Lib.hid (show W0.heap[w.heap.size]? = some (.cells (flatH (repH c 0)).toArray 110 (0, 0)) by
    rw [hW0, repH_zero]; exact RowH.made c w)
  have HX0 := Lib.hid (And.intro (keep_below HB0.out _ _ HX.out.1) (keep_below HB0.out _ _ HX.out.2))
  obtain ⟨k, hk⟩ : ∃ k, Nat.min 1 c = k := ⟨_, rfl⟩
  have hkc : k ≤ c := by rw [← hk]; exact Nat.min_le_right _ _
  have HK1 := Lib.hid (show k ≤ 1 by rw [← hk]; exact Nat.min_le_left _ _)
  have HKC := Lib.hid (show 0 < c → 0 < k by intro h; rw [← hk]; show 0 < min 1 c; omega)
  have HKE := Lib.hid hk.symm
  obtain ⟨cs, hcs⟩ : ∃ cs : List Value, flatH (List.replicate k (0, -1)) = cs := ⟨_, rfl⟩
  have HCE := Lib.hid (show cs.length = k * 2 by rw [← hcs, flatH_len, List.length_replicate])
  have HCQ := Lib.hid (show ∀ (j : Nat) (u : Value), cs[j]? = some u → W0.cell? ⟨b, off + j, none⟩ = some u by
    intro j u hj
    obtain ⟨h9, h8⟩ := List.getElem?_eq_some_iff.1 hj
    rw [HCE.out] at h9
    obtain rfl : k = 1 := by have := HK1.out; omega
    obtain ⟨c0, c1⟩ := flatH_at (show (List.replicate 1 ((0 : Nat), (-1 : Int)))[0]? = some (0, -1) from rfl)
    rw [hcs] at c0 c1
    by_cases hj0 : j = 0
    · subst hj0; rw [Nat.zero_mul, hj] at c0; rw [Option.some.inj c0]; exact HX0.out.1
    · obtain rfl : j = 1 := by omega
      rw [Nat.zero_mul, Nat.zero_add, hj] at c1; rw [Option.some.inj c1]; exact HX0.out.2)
  have HCF := Lib.hid (show 0 + cs.length ≤ (flatH (repH c 0)).length by rw [HCE.out, flatH_len, repH_len c 0 (by omega)]; omega)
  have HC1 := Lib.hid (show ∀ u ∈ cs, u.oneCell' = true by rw [← hcs]; exact flatH_one _)
  have HSP := Lib.hid (show splice (flatH (repH c 0)) 0 cs = flatH (repH c k) by rw [← hcs]; have := repH_splice c 0 k (by omega); rwa [Nat.zero_add, Nat.zero_mul] at this)
  clear h0 h1 hcs hk
  have hfold := hW0.symm
  clear hW0
  go_enter Tryz.func97, Tryz.ntmps97
  go_wp2_with (first | ((with_reducible refine (bmulH_calls c HC.out _).mono ?_); rintro e w' ⟨rfl, rfl⟩) | ((with_reducible show wpList _ _ _ ({ dst := some 33, op := _, type := _, pos := _, after := _, guard := _ } :: _) _ _); go_must (refine wpList_copy_splice2 rfl (.tmp 31) (.tmp 32) 104 104 rfl 110 Tryz.underlying104 HSZ.out _ _ c c 1 cap k rfl rfl w.heap.size 0 (flatH (repH c 0)) 110 HG0.out cs HKE.out HCE.out (fun _ => ⟨rfl, _, rfl, fun j u hj => add_cell (HCQ.out j u hj)⟩) HCF.out HC1.out w.heap.size w HB0.out (Nat.le_refl _) ?_)))
  intro w2 HG2 hB2
  rw [HSP.out] at HG2
  have HB2 := Lib.hid hB2
  clear hB2 hfold hmk
  clear HX0 HCQ HCF HC1 HCE HKE
  go_wp2
  go_loopw [8] (fun nn wr => ∃ n : Nat, n ≤ c ∧ (0 < c → 0 < n) ∧ nn = .int .i64 n ∧ Hid (wr.heap[w.heap.size]? = some (.cells (flatH (repH c n)).toArray 110 (0, 0))) ∧ Below w.heap.size w wr) (fun nn _ => c - (intOf nn).toNat)
  case atStart => exact ⟨k, hkc, HKC.out, rfl, HG2, HB2.out⟩
  case round =>
    obtain ⟨n, hn, hpos, rfl, HG, hB⟩ := hrel
    have HB := Lib.hid hB
    have HP := Lib.hid hpos
    clear hB hpos
    by_cases hlt : n < c
    · obtain ⟨q, hq⟩ : ∃ q, Nat.min n (c - n) = q := ⟨_, rfl⟩
      have hn0 : 0 < n := HP.out (by omega)
      have hq0 : 0 < q := by rw [← hq]; show 0 < min n (c - n); omega
      have hqc : n + q ≤ c := by have : q ≤ c - n := by rw [← hq]; exact Nat.min_le_right _ _
                                 omega
      have hqn : q ≤ n := by rw [← hq]; exact Nat.min_le_left _ _
      obtain ⟨cs2, hcs⟩ : ∃ cs2 : List Value, flatH (List.replicate q (0, -1)) = cs2 := ⟨_, rfl⟩
      have HCE := Lib.hid (show cs2.length = q * 2 by rw [← hcs, flatH_len, List.length_replicate])
      have HCQ := Lib.hid (show ∀ (j : Nat) (u : Value), cs2[j]? = some u → wr.cell? ⟨w.heap.size, 0 + j, none⟩ = some u by
        intro j u hj
        rw [Nat.zero_add]
        refine row_cell HG.out ?_
        have e : flatH (repH c n) = cs2 ++ flatH (List.replicate (n - q) (0, -1) ++ List.replicate (c - n) (0, 0)) := by
          rw [← hcs, ← flatH_app, ← List.append_assoc, List.replicate_append_replicate, show q + (n - q) = n by omega]; rfl
        rw [e, List.getElem?_append_left (List.getElem?_eq_some_iff.1 hj).1]
        exact hj)
      have HS0 := Lib.hid (show wr.cell? ⟨w.heap.size, 0, none⟩ = some (.int .u64 0) from (RowH.cell HG.out (i := 0) (repH_get c n hn0)).1)
      have HC1 := Lib.hid (show ∀ u ∈ cs2, u.oneCell' = true by rw [← hcs]; exact flatH_one _)
      have HSP := Lib.hid (show splice (flatH (repH c n)) (n * 2) cs2 = flatH (repH c (n + q)) by rw [← hcs]; exact repH_splice c n q hqc)
      have HHQ := Lib.hid hq
      obtain ⟨e, he⟩ : ∃ e, c - n = e := ⟨_, rfl⟩
      have HQE := Lib.hid (show q = Nat.min n e by rw [← he, hq])
      have HCF := Lib.hid (show n * 2 + cs2.length ≤ (flatH (repH c n)).length by rw [HCE.out, flatH_len, repH_len c n hn]; omega)
      clear hcs hq
      go_wp2_with fail
      --TREE
      have hcn : (c = n) = False := eq_false (by omega)
      have HGO := Lib.hid HG.out
      have HBW := Lib.hid HB.out
      obtain ⟨W11, hWD⟩ : ∃ xw9, wr.drew = xw9 := ⟨_, rfl⟩
      have hB : Below wr.heap.size wr W11 := by rw [← hWD]; exact Below.drewN' (Below.refl _ _) 1
      replace HS0 := Lib.hid (keep_below hB _ _ HS0.out)
      replace HB := Lib.hid (HB.out.trans (hB.mono HB.out.size))
      replace HG := Lib.hid ((hB.block _ (lt_heap HG.out)).trans HG.out)
      replace HCQ := Lib.hid (fun j u hj => keep_below hB _ _ (HCQ.out j u hj))
      clear hB
      refine wp_region_held_drew (S := fun w' => w'.cell? ⟨w.heap.size, 0, none⟩ = some (.int .u64 0)) (by kernel_rfl) (by rw [hWD]; exact HS0.out) (fun hHeld => ?_)
      rw [hWD] at hHeld ⊢
      clear hWD
      refine wpAnyH_take (i := 0) (v := ?_) rfl (by kernel_rfl) (by kernel_rfl) (by kernel_rfl) (fun _ _ _ h => h) (Or.inl ⟨by rfl, ?_⟩) (by assumption) ?_
      rotate_left
      · (intro w hSw; (try dsimp only at hSw); go_simp; try with_reducible rfl)
      simp only [Act.put, List.getElem_toArray, List.getElem_cons_zero, List.setIfInBounds_toArray, List.set_cons_zero, List.set_cons_succ]
      refine wpAnyH_take (i := 1) (v := ?_) rfl (by kernel_rfl) (by kernel_rfl) (by kernel_rfl) (fun _ _ _ h => h) (Or.inl ⟨by rfl, ?_⟩) (by assumption) ?_
      rotate_left
      · (intro w hSw; (try dsimp only at hSw); go_simp; try with_reducible rfl)
      simp only [Act.put, List.getElem_toArray, List.getElem_cons_succ, List.getElem_cons_zero, List.setIfInBounds_toArray, List.set_cons_zero, List.set_cons_succ]
      refine wpAnyH_take (i := 2) (v := ?_) rfl (by kernel_rfl) (by kernel_rfl) (by kernel_rfl) (fun _ _ _ h => h) (Or.inl ⟨by rfl, ?_⟩) (by assumption) ?_
      rotate_left
      · (intro w hSw; (try dsimp only at hSw); go_simp; try with_reducible rfl)
      simp only [Act.put, List.getElem_toArray, List.getElem_cons_succ, List.getElem_cons_zero, List.setIfInBounds_toArray, List.set_cons_zero, List.set_cons_succ]
      refine wpAnyH_take (i := 3) (v := ?_) rfl (by kernel_rfl) (by kernel_rfl) (by kernel_rfl) (fun _ _ _ h => h) (Or.inl ⟨by rfl, ?_⟩) (by assumption) ?_
      rotate_left
      · (intro w hSw; (try dsimp only at hSw); go_simp; try with_reducible rfl)
      simp only [Act.put, List.getElem_toArray, List.getElem_cons_succ, List.getElem_cons_zero, List.setIfInBounds_toArray, List.set_cons_zero, List.set_cons_succ]
      refine wpAnyH_take (i := 4) (v := ?_) rfl (by kernel_rfl) (by kernel_rfl) (by kernel_rfl) (fun _ _ _ h => h) (Or.inl ⟨by rfl, ?_⟩) (by assumption) ?_
      rotate_left
      · (intro w hSw; (try dsimp only at hSw); go_simp; try with_reducible rfl)
      simp only [Act.put, List.getElem_toArray, List.getElem_cons_succ, List.getElem_cons_zero, List.setIfInBounds_toArray, List.set_cons_zero, List.set_cons_succ]
      refine wpAnyH_take (i := 5) (v := ?_) rfl (by kernel_rfl) (by kernel_rfl) (by kernel_rfl) (fun _ _ _ h => h) (Or.inl ⟨by rfl, ?_⟩) (by assumption) ?_
      rotate_left
      · (intro w hSw; (try dsimp only at hSw); go_simp; try with_reducible rfl)
      simp only [Act.put, List.getElem_toArray, List.getElem_cons_succ, List.getElem_cons_zero, List.setIfInBounds_toArray, List.set_cons_zero, List.set_cons_succ]
      refine wpAnyH_take (i := 6) (v := ?_) rfl (by kernel_rfl) (by kernel_rfl) (by kernel_rfl) (fun _ _ _ h => h) (Or.inl ⟨by rfl, ?_⟩) (by assumption) ?_
      rotate_left
      · (intro w hSw; (try dsimp only at hSw); go_simp; try with_reducible rfl)
      simp only [Act.put, List.getElem_toArray, List.getElem_cons_succ, List.getElem_cons_zero, List.setIfInBounds_toArray, List.set_cons_zero, List.set_cons_succ]
      refine wpAnyH_ready (rs := [7]) (by kernel_rfl) (by simp) ?_
      refine AllReadyH.cons (o := _) rfl (fun K hK => ?_) ?_
      · clear hHeld
        refine step_copy_splice2 rfl (.tmp 41) (.tmp 44) 104 104 rfl 110 Tryz.underlying104 HSZ.out (some ⟨w.heap.size, n * 2, none⟩) (some ⟨w.heap.size, 0, none⟩) e e n c q rfl rfl w.heap.size (n * 2) (flatH (repH c n)) 110 HG.out cs2 HQE.out HCE.out (fun _ => ⟨rfl, _, rfl, fun j u hj => add_cell (HCQ.out j u hj)⟩) HCF.out HC1.out w.heap.size w HB.out (Nat.le_refl _) ?_
        intro w4 HG4 hB4
        rw [HSP.out] at HG4
        have HB4 := Lib.hid hB4
        have HS4 := Lib.hid (show w4.cell? ⟨w.heap.size, 0, none⟩ = some (.int .u64 0) from (RowH.cell HG4.out (i := 0) (repH_get c (n + q) (by omega))).1)
        clear hB4
        refine hK.out _ _ ?_ (fun hHeld => ?_)
        · exact HS4.out
        clear hK K
        refine wpAnyH_take (i := 8) (v := ?_) rfl (by kernel_rfl) (by kernel_rfl) (by kernel_rfl) (fun _ _ _ h => h) (Or.inl ⟨by rfl, ?_⟩) (by assumption) ?_
        rotate_left
        · (intro w hSw; (try dsimp only at hSw); go_simp; try with_reducible rfl)
        simp only [Act.put, List.getElem_toArray, List.getElem_cons_succ, List.getElem_cons_zero, List.setIfInBounds_toArray, List.set_cons_zero, List.set_cons_succ]
        refine wpAnyH_take (i := 9) (v := ?_) rfl (by kernel_rfl) (by kernel_rfl) (by kernel_rfl) (fun _ _ _ h => h) (Or.inl ⟨by rfl, ?_⟩) (by assumption) ?_
        rotate_left
        · (intro w hSw; (try dsimp only at hSw); go_simp; try with_reducible rfl)
        simp only [Act.put, List.getElem_toArray, List.getElem_cons_succ, List.getElem_cons_zero, List.setIfInBounds_toArray, List.set_cons_zero, List.set_cons_succ]
        refine wpAnyH_done (by kernel_rfl) ?_ _
        clear hHeld
        have hw : IntKind.i64.wrap ((n : Int) + (q : Int)) = ((n + q : Nat) : Int) := by rw [IntWalk.i64_in _ (by omega)]; omega
        go_wp2
        go_roundw
        case rel => exact ⟨n + q, hqc, fun _ => by omega, congrArg (Value.int .i64) (by rw [IntWalk.i64_in _ (by omega)]; omega), HG4, HB4.out⟩
        case measure => simp [intOf]; omega
      exact AllReadyH.nil
      --END
    · have hnc : n = c := by omega
      have HL := Lib.hid (show RowH wr w.heap.size (List.replicate c (0, -1)) by
        rw [hnc, repH_full] at HG
        exact HG.out)
      clear hnc
      go_wp2
      go_ret
      exact ⟨rfl, HL.out, HB.out⟩
set_option maxHeartbeats 4000000 in
theorem hempty_calls (c : Nat) (w : World) (hc : c ≤ 4000000) :
    Calls Tryz.prog 66 #[.int .i64 (c : Int)] w fun e w' => ∃ g, e = .returned (.slice (some ⟨g, 0, none⟩) c c) ∧ w.heap.size ≤ g ∧ RowH w' g (List.replicate c (0, -1)) ∧ Below w.heap.size w w' := by
  obtain ⟨W1, hW1⟩ : ∃ W1, w.alloc (.cells #[.int .u64 0, .int .i64 (-1)] 110) = W1 := ⟨_, rfl⟩
  have HA := Lib.hid (show At2 W1 w.heap.size (.int .u64 0) (.int .i64 (-1)) by rw [← hW1]; exact At2.new _ _ _ _)
  have HB := Lib.hid (show Below w.heap.size w W1 by rw [← hW1]; exact below_new _ _)
  have HC := Lib.hid hc
  clear hc
  go_enter Tryz.func66, Tryz.ntmps66
  go_wp2_with fail
  refine (hrepeat_calls w.heap.size 0 _ c W1 HA.out.2.1 HA.out.2.2.1 HC.out).mono ?_
  rintro e w2 ⟨rfl, hR, hB⟩
  have HR := Lib.hid hR
  have HB2 := Lib.hid (HB.out.trans (hB.mono HB.out.size))
  clear hR hB
  go_wp2_with fail
  go_ret
  exact ⟨_, rfl, HB.out.size, HR.out, HB2.out⟩
end Go.Proofs.YtbdhibcbpgjbmaaGreatDoor

/- Layer 19, plain: a table of slots: what lies in it, where a search ends, what putting turns. -/
namespace Go.Proofs.YtbdhibcbpgjbmaaGreatDoor
set_option maxRecDepth 100000
open Go.RowKit Fl
set_option linter.unusedVariables false

/-- A slot of a table; an empty one, where there is none. -/
def sAt (S : List (Nat × Int)) (i : Nat) : Nat × Int := S.getD i (0, -1)
theorem sAt_get {S : List (Nat × Int)} {i : Nat} (h : i < S.length) : S[i]? = some (sAt S i) := by
  unfold sAt
  rw [List.getD_eq_getElem?_getD, List.getElem?_eq_getElem h]; rfl
theorem sAt_set {S : List (Nat × Int)} {r : Nat} {t : Nat × Int} (h : r < S.length) (s : Nat) : sAt (S.set r t) s = if s = r then t else sAt S s := by
  unfold sAt
  rw [List.getD_eq_getElem?_getD, List.getD_eq_getElem?_getD]
  by_cases e : s = r
  · subst e
    rw [if_pos rfl, List.getElem?_set_self h]; rfl
  · rw [if_neg e, List.getElem?_set_ne (fun x => e x.symm)]
structure HTab (its : Nat → PI) (K : PI → Nat) (n : Nat) (P : List Nat) (S : List (Nat × Int)) : Prop where
  pos : 0 < S.length
  lt : ∀ p ∈ P, p < n
  sl : ∀ s, s < S.length → (sAt S s).2 = -1 ∨ ∃ p ∈ P, sAt S s = (K (its p), (p : Int))
  pl : ∀ p ∈ P, ∃ d, d < S.length ∧ sAt S ((K (its p) + d) % S.length) = (K (its p), (p : Int)) ∧ ∀ e, e < d → (sAt S ((K (its p) + e) % S.length)).2 ≠ -1
  ct : S.countP (fun t => decide (t.2 ≠ -1)) = P.length
theorem HTab.start (its : Nat → PI) (K : PI → Nat) (n m : Nat) (h : 0 < m) : HTab its K n [] (List.replicate m (0, -1)) := by
  refine ⟨by simpa using h, fun p hp => by simp at hp, fun s hs => Or.inl ?_, fun p hp => by simp at hp, ?_⟩
  · unfold sAt
    rw [List.length_replicate] at hs
    rw [List.getD_eq_getElem?_getD, List.getElem?_replicate, if_pos hs]; rfl
  · rw [List.countP_replicate]; simp
theorem HTab.room {its : Nat → PI} {K : PI → Nat} {n : Nat} {P : List Nat} {S : List (Nat × Int)} (h : HTab its K n P S) (hl : P.length < S.length) : ∃ s, s < S.length ∧ (sAt S s).2 = -1 := by
  apply Classical.byContradiction
  intro hn
  have : S.countP (fun t => decide (t.2 ≠ -1)) = S.length := by
    rw [List.countP_eq_length]
    intro t ht
    obtain ⟨i, hi, rfl⟩ := List.mem_iff_getElem.1 ht
    have hs := sAt_get hi
    rw [List.getElem?_eq_getElem hi] at hs
    rw [Option.some.inj hs]
    exact decide_eq_true (fun e => hn ⟨i, hi, e⟩)
  have := h.ct
  omega
theorem reach (k s m : Nat) (hs : s < m) : ∃ d, d < m ∧ (k + d) % m = s := by
  have hm : 0 < m := by omega
  have hk := Nat.mod_lt k hm
  refine ⟨(s + m - k % m) % m, Nat.mod_lt _ hm, ?_⟩
  rw [Nat.add_mod_mod]
  have e : k = m * (k / m) + k % m := (Nat.div_add_mod k m).symm
  obtain ⟨r, hr⟩ : ∃ r, k % m = r := ⟨_, rfl⟩
  rw [hr] at e hk ⊢
  have : k + (s + m - r) = m * (k / m) + (s + m) := by
    conv => lhs; rw [e]
    omega
  rw [this, Nat.mul_add_mod, Nat.add_mod_right, Nat.mod_eq_of_lt hs]
/-- A slot that is full, of an element that is not like this one. -/
def Miss (its : Nat → PI) (P : List Nat) (S : List (Nat × Int)) (x : PI) (s : Nat) : Prop := (sAt S s).2 ≠ -1 ∧ ∀ p ∈ P, (sAt S s).2 = (p : Int) → its p ≠ x
theorem HTab.bound {its : Nat → PI} {K : PI → Nat} {n : Nat} {P : List Nat} {S : List (Nat × Int)} (h : HTab its K n P S) (hl : P.length < S.length) {x : PI} {k d : Nat} (hd : ∀ e, e < d → Miss its P S x ((k + e) % S.length)) : d < S.length := by
  obtain ⟨s, hs, he⟩ := h.room hl
  obtain ⟨d0, h0, e0⟩ := reach k s S.length hs
  by_cases hc : d0 < d
  · have := (hd d0 hc).1
    rw [e0] at this
    exact absurd he this
  · omega
theorem HTab.none {its : Nat → PI} {K : PI → Nat} {n : Nat} {P : List Nat} {S : List (Nat × Int)} (h : HTab its K n P S) {x : PI} {d : Nat} (hd : ∀ e, e < d → Miss its P S x ((K x + e) % S.length))
    (he : (sAt S ((K x + d) % S.length)).2 = -1) : ∀ p ∈ P, its p ≠ x := by
  intro p hp hx
  obtain ⟨d', h1, h2, h3⟩ := h.pl p hp
  rw [hx] at h2 h3
  rcases Nat.lt_trichotomy d' d with hlt | heq | hgt
  · exact (hd d' hlt).2 p hp (by rw [h2]) hx
  · subst heq
    rw [h2] at he
    simp at he
  · exact h3 d hgt he
/-- Where a search ends. -/
def SlotRes (its : Nat → PI) (K : PI → Nat) (P : List Nat) (S : List (Nat × Int)) (x : PI) (r : Nat) : Prop :=
  r < S.length ∧ (((sAt S r).2 = -1 ∧ (∀ p ∈ P, its p ≠ x) ∧ ∃ d, d < S.length ∧ r = (K x + d) % S.length ∧ ∀ e, e < d → Miss its P S x ((K x + e) % S.length)) ∨ ∃ p ∈ P, sAt S r = (K (its p), (p : Int)) ∧ its p = x)
theorem HTab.put {its : Nat → PI} {K : PI → Nat} {n : Nat} {P : List Nat} {S : List (Nat × Int)} (h : HTab its K n P S) {i r : Nat} (hi : i < n) (hr : SlotRes its K P S (its i) r) (he : (sAt S r).2 = -1) :
    HTab its K n (P ++ [i]) (S.set r (K (its i), (i : Int))) := by
  obtain ⟨hrl, hc⟩ := hr
  rcases hc with ⟨_, hno, d, hdl, hrd, hd⟩ | ⟨p, hp, hs, _⟩
  · have hat := fun s => sAt_set (t := (K (its i), (i : Int))) hrl s
    have hne : ∀ s, (sAt S s).2 ≠ -1 → (sAt (S.set r (K (its i), (i : Int))) s).2 ≠ -1 := by
      intro s hs
      rw [hat]
      split
      · intro e; simp at e
      · exact hs
    refine ⟨by rw [List.length_set]; exact h.pos, ?_, ?_, ?_, ?_⟩
    · intro p hp
      rcases List.mem_append.1 hp with hp | hp
      · exact h.lt p hp
      · rw [List.mem_singleton.1 hp]; exact hi
    · intro s hs
      rw [List.length_set] at hs
      rw [hat]
      by_cases e : s = r
      · rw [if_pos e]
        exact Or.inr ⟨i, by simp, rfl⟩
      · rw [if_neg e]
        rcases h.sl s hs with h0 | ⟨p, hp, e1⟩
        · exact Or.inl h0
        · exact Or.inr ⟨p, List.mem_append_left _ hp, e1⟩
    · intro p hp
      rw [List.length_set]
      rcases List.mem_append.1 hp with hp | hp
      · obtain ⟨d', h1, h2, h3⟩ := h.pl p hp
        refine ⟨d', h1, ?_, fun e hlt => hne _ (h3 e hlt)⟩
        rw [hat, if_neg, h2]
        intro e
        rw [← e, h2] at he
        simp at he
      · obtain rfl := List.mem_singleton.1 hp
        refine ⟨d, hdl, ?_, fun e hlt => hne _ (hd e hlt).1⟩
        rw [hat, ← hrd, if_pos rfl]
    · have e9 : S[r] = sAt S r := by
        have hs := sAt_get hrl
        rw [List.getElem?_eq_getElem hrl] at hs
        exact Option.some.inj hs
      rw [List.countP_set hrl, h.ct, e9, if_neg (by rw [he]; decide), if_pos (by rw [decide_eq_true_iff]; intro e; simp at e), List.length_append]
      rfl
  · rw [hs] at he
    simp at he
/-- The places below j of those that no earlier one is like. -/
noncomputable def fstL (l : List PI) (j : Nat) : List Nat := (List.range j).filter (fun i => decide (fndI l (atI l (blankI 0) (i : Int)) = i))
theorem fstL_all (l : List PI) : fstL l l.length = frsL l := rfl
theorem fstL_len (l : List PI) (j : Nat) : (fstL l j).length ≤ j := by
  have := List.length_filter_le (fun i => decide (fndI l (atI l (blankI 0) ((i : Nat) : Int)) = i)) (List.range j)
  rw [List.length_range] at this
  exact this
theorem fstL_mem {l : List PI} {j p : Nat} (h : p ∈ fstL l j) : p < j ∧ fndI l (atI l (blankI 0) (p : Int)) = p := by
  obtain ⟨h1, h2⟩ := List.mem_filter.1 h
  exact ⟨List.mem_range.1 h1, of_decide_eq_true h2⟩
theorem fstL_snoc (l : List PI) (j : Nat) : fstL l (j + 1) = fstL l j ++ (if fndI l (atI l (blankI 0) (j : Int)) = j then [j] else []) := by
  unfold fstL
  rw [filter_range_snoc]
  congr 1
  by_cases h : fndI l (atI l (blankI 0) (j : Int)) = j
  · rw [if_pos (by simpa using h), if_pos h]
  · rw [if_neg (by simpa using h), if_neg h]
theorem iq_eq {x y : PI} (h : iq x y = true) : x = y := by
  by_cases e : x = y
  · exact e
  · rw [iq_no e] at h; cases h
theorem fndI_at {l : List PI} {x : PI} (h : fndI l x < l.length) : atI l (blankI 0) ((fndI l x : Nat) : Int) = x := by
  rw [atI_nat h]
  exact iq_eq (List.findIdx_getElem (p := fun y => iq y x) (xs := l) (w := h))
/-- What a table of the first ones says of an item that it holds .. -/
theorem fst_hit {l : List PI} {j p : Nat} {x : PI} (hp : p ∈ fstL l j) (hx : atI l (blankI 0) (p : Int) = x) : fndI l x = p ∧ p < j := by
  obtain ⟨h1, h2⟩ := fstL_mem hp
  rw [hx] at h2
  exact ⟨h2, h1⟩
/-- .. and of one that it does not. -/
theorem fst_miss {l : List PI} {j : Nat} {x : PI} (hj : j ≤ l.length) (hx : ∀ p ∈ fstL l j, atI l (blankI 0) (p : Int) ≠ x) : j ≤ fndI l x := by
  apply Classical.byContradiction
  intro hn
  have hlt : fndI l x < l.length := by omega
  have e := fndI_at hlt
  refine hx (fndI l x) ?_ e
  unfold fstL
  rw [List.mem_filter]
  exact ⟨List.mem_range.2 (by omega), decide_eq_true (by rw [e])⟩
theorem fndI_self {l : List PI} {j : Nat} (hj : j < l.length) : fndI l (atI l (blankI 0) (j : Int)) ≤ j := by
  apply Classical.byContradiction
  intro hn
  have := List.not_of_lt_findIdx (p := fun y => iq y (atI l (blankI 0) (j : Int))) (xs := l) (i := j) (by unfold fndI at hn; omega)
  simp only [atI_nat hj] at this
  rw [iq_yes rfl] at this
  cases this
end Go.Proofs.YtbdhibcbpgjbmaaGreatDoor

/- Layer 19: keys: what makes a number of a number. -/
namespace Go.Proofs.YtbdhibcbpgjbmaaGreatDoor
set_option maxRecDepth 100000
open Go.RowKit Fl
set_option linter.unusedVariables false

def mxA (c x : Int) : Int := IntKind.u64.wrap (x + c)
def mxB (s c x : Int) : Int := IntKind.u64.wrap (bits .xor .u64 x (x / s) * c)
def mxI (x : Int) : Int := bits .xor .u64 (mxB 134217728 10723151780598845931 (mxB 1073741824 13787848793156543929 (mxA 11400714819323198485 x))) (mxB 134217728 10723151780598845931 (mxB 1073741824 13787848793156543929 (mxA 11400714819323198485 x)) / 2147483648)
/-- A word of any number. -/
def uN (y : Int) : Nat := (IntKind.u64.wrap y).toNat
theorem u64_wrap (y : Int) : IntKind.u64.wrap y = y % 18446744073709551616 := IntKind.wrap_u64 y
theorem uN_eq (y : Int) : (uN y : Int) = IntKind.u64.wrap y := by
  unfold uN
  rw [u64_wrap]
  omega
theorem uN_lt (y : Int) : uN y < 18446744073709551616 := by
  have := uN_eq y
  rw [u64_wrap] at this
  omega
theorem mxI_nat (x : Nat) : ∃ n : Nat, n < 18446744073709551616 ∧ mxI (x : Int) = (n : Int) := by
  unfold mxI
  obtain ⟨m, hm⟩ : ∃ m, mxB 1073741824 13787848793156543929 (mxA 11400714819323198485 x) = m := ⟨_, rfl⟩
  rw [hm]
  unfold mxB
  rw [← uN_eq]
  obtain ⟨n, hn⟩ : ∃ n, uN (bits .xor .u64 m (m / 134217728) * 10723151780598845931) = n := ⟨_, rfl⟩
  have hl := uN_lt (bits .xor .u64 m (m / 134217728) * 10723151780598845931)
  rw [hn] at hl ⊢
  rw [show (n : Int) / 2147483648 = ((n / 2147483648 : Nat) : Int) by omega, u64_xor_nat n _ hl (by omega)]
  exact ⟨_, Nat.xor_lt_two_pow (n := 64) hl (by omega), rfl⟩
/-- Another number of a number. -/
def mxN (x : Nat) : Nat := (mxI (x : Int)).toNat
theorem mxN_eq (x : Nat) : (mxN x : Int) = mxI (x : Int) := by
  unfold mxN
  obtain ⟨n, _, e⟩ := mxI_nat x
  rw [e]; rfl
theorem mxN_lt (x : Nat) : mxN x < 18446744073709551616 := by
  unfold mxN
  obtain ⟨n, h, e⟩ := mxI_nat x
  rw [e]; exact h
/-- One key of two. -/
def joN (k n : Nat) : Nat := mxN (uN ((uN (31 * (k : Int)) : Int) + (n : Int)))
theorem joN_lt (k n : Nat) : joN k n < 18446744073709551616 := mxN_lt _

theorem hmixed_calls (x : Nat) (w : World) (hx : x < 18446744073709551616) : Calls Tryz.prog 54 #[.int .u64 (x : Int)] w fun e w' => e = .returned (.int .u64 (mxN x : Int)) ∧ w = w' := by
  rw [mxN_eq]
  go_enter Tryz.func54, Tryz.ntmps54
  go_wp2_with fail
  go_ret
  exact ⟨rfl, rfl⟩
theorem hjoined_calls (k n : Nat) (w : World) (hk : k < 18446744073709551616) (hn : n < 18446744073709551616) : Calls Tryz.prog 90 #[.int .u64 (k : Int), .int .u64 (n : Int)] w fun e w' => e = .returned (.int .u64 (joN k n : Int)) ∧ w = w' := by
  have HM := Lib.hid (hmixed_calls (uN ((uN (31 * (k : Int)) : Int) + (n : Int))) w (uN_lt _))
  rw [uN_eq, uN_eq] at HM
  go_enter Tryz.func90, Tryz.ntmps90
  go_wp2_with fail
  refine HM.out.mono ?_
  rintro e w' ⟨rfl, rfl⟩
  go_wp2
  go_ret
  exact ⟨rfl, rfl⟩
/-- The key of an item; of a plain array, boxes at most d in one another. -/
def kyI (t : PA → Nat) (x : PI) : Nat := if x.1 = 1 then mxN (uN x.2.2.1) else if x.1 = 2 then t (hd x.2.2.2) else mxN x.2.1
def kyS (k : Nat) (s : List Int) : Nat := s.foldl (fun k n => joN k (uN n)) k
def kyL (t : PA → Nat) (k : Nat) (l : List PI) : Nat := l.foldl (fun k x => joN k (kyI t x)) k
def kyP : Nat → PA → Nat
  | 0, _ => 0
  | d + 1, p => kyL (kyP d) (kyS (mxN (uN p.f)) p.s) p.l
theorem kyS_lt {s : List Int} : ∀ {k : Nat}, k < 18446744073709551616 → kyS k s < 18446744073709551616 := by
  induction s with
  | nil => intro k h; exact h
  | cons x s ih => intro k h; exact ih (joN_lt _ _)
theorem kyL_lt {t : PA → Nat} {l : List PI} : ∀ {k : Nat}, k < 18446744073709551616 → kyL t k l < 18446744073709551616 := by
  induction l with
  | nil => intro k h; exact h
  | cons x s ih => intro k h; exact ih (joN_lt _ _)
theorem kyP_lt (d : Nat) (p : PA) : kyP d p < 18446744073709551616 := by
  cases d with
  | zero => show 0 < 18446744073709551616; decide
  | succ d => exact kyL_lt (kyS_lt (mxN_lt _))
theorem kyI_lt (d : Nat) (x : PI) : kyI (kyP d) x < 18446744073709551616 := by
  unfold kyI
  split
  · exact mxN_lt _
  · split
    · exact kyP_lt _ _
    · exact mxN_lt _
theorem kyS_snoc (k : Nat) (s : List Int) (j : Nat) (h : j < s.length) : kyS k (s.take (j + 1)) = joN (kyS k (s.take j)) (uN s[j]) := by
  unfold kyS
  rw [List.take_succ_eq_append_getElem h, List.foldl_append, List.foldl_cons, List.foldl_nil]
theorem kyL_snoc (t : PA → Nat) (k : Nat) (s : List PI) (j : Nat) (h : j < s.length) : kyL t k (s.take (j + 1)) = joN (kyL t k (s.take j)) (kyI t s[j]) := by
  unfold kyL
  rw [List.take_succ_eq_append_getElem h, List.foldl_append, List.foldl_cons, List.foldl_nil]
end Go.Proofs.YtbdhibcbpgjbmaaGreatDoor

/- Layer 19, walked: has, Key, arrayKey. -/
namespace Go.Proofs.YtbdhibcbpgjbmaaGreatDoor
open Go.RowKit Fl
set_option linter.unusedVariables false
set_option maxRecDepth 100000

theorem hhas1_yes {ok : Nat → Prop} (u : Value) (V : VV) (k : Nat) (w : World) (h : IsV w ok u V) (hk : k < V.len) : Calls Tryz.prog 53 #[.agg #[u], .int .i64 (k : Int)] w (BoolIs true w) := by
  have hsx := h.store
  have HV := Lib.hid (h.grow (below_new w (.cells #[u] 36)))
  have HB := Lib.hid (below_new w (.cells #[u] 36))
  clear h
  go_enter Tryz.func53, Tryz.ntmps53
  go_wp2_with fail
  refine (vlen_calls _ _ _ HV.out).mono ?_
  rintro e w2 ⟨rfl, hB⟩
  have HB2 := Lib.hid (HB.out.trans (hB.mono HB.out.size))
  clear hB
  go_wp2_with fail
  go_ret
  exact BoolIs.mk rfl HB2.out

def KeyAt (d : Nat) : Prop := ∀ (ok : Nat → Prop) (A : List Int × VV) (sh u : Value) (w : World), gA d A → IsArr w ok sh u A →
  Calls Tryz.prog 56 #[.agg #[sh, u]] w fun e w' => e = .returned (.int .u64 (kyP d (plA d A) : Int)) ∧ Below w.heap.size w w'
theorem kyI_one (t : PA → Nat) (c : Int) : kyI t (1, 0, c, []) = mxN (uN c) := by
  show (if (1 : Int) = 1 then _ else _) = _
  rw [if_pos rfl]
theorem kyI_two (t : PA → Nat) (q : PA) : kyI t (2, 0, 0, [q]) = t q := by
  show (if (2 : Int) = 1 then _ else if (2 : Int) = 2 then _ else _) = _
  rw [if_neg (by decide), if_pos rfl]; rfl
theorem kyI_zero (t : PA → Nat) (x : Nat) : kyI t (0, x, 0, []) = mxN x := by
  show (if (0 : Int) = 1 then _ else if (0 : Int) = 2 then _ else _) = _
  rw [if_neg (by decide), if_neg (by decide)]
theorem kyI_char {t : PA → Nat} {p : List Int × VV → PA} {V : VV} {i : Nat} (h : V.cls = 1) : kyI t (itA p V i) = mxN (uN (atI V.text 0 (i : Int))) := by
  rw [show itA p V i = (1, 0, atI V.text 0 (i : Int), []) by unfold itA; rw [if_pos h], kyI_one]
theorem kyI_box {t : PA → Nat} {p : List Int × VV → PA} {V : VV} {i : Nat} (h : V.cls = 2) : kyI t (itA p V i) = t (p (atI V.boxs ([], .none) (i : Int))) := by
  rw [show itA p V i = (2, 0, 0, [p (atI V.boxs ([], .none) (i : Int))]) by unfold itA; rw [if_neg (by omega), if_pos h], kyI_two]
theorem kyI_num {t : PA → Nat} {p : List Int × VV → PA} {V : VV} {i : Nat} (h1 : V.cls ≠ 1) (h : V.cls ≠ 2) : kyI t (itA p V i) = mxN (atI V.nums 0 (i : Int)) := by
  rw [show itA p V i = (0, atI V.nums 0 (i : Int), 0, []) by unfold itA; rw [if_neg h1, if_neg h], kyI_zero]

set_option maxHeartbeats 4000000 in
theorem hkey_at (d : Nat) (ih : KeyAt d) {ok : Nat → Prop} (u : Value) (V : VV) (k : Nat) (w : World) (hok : V.ok) (hnm : V.nm) (hbx : ∀ a ∈ V.boxs, gA d a) (hk : k < V.len) (hv : IsV w ok u V) :
    Calls Tryz.prog 24 #[.agg #[u], .int .i64 (k : Int)] w fun e w' => e = .returned (.int .u64 (kyI (kyP d) (itA (plA d) V k) : Int)) ∧ Below w.heap.size w w' := by
  have x1 := @run_callFunc_extern Tryz.prog 58 _ Extern.MathFloatBits.float64bits Tryz.func58 (by kernel_rfl) (by kernel_rfl) (by kernel_rfl) (by kernel_rfl)
  have x3 := run_bits Tryz.prog
  have HIH := Lib.hid ih
  have HOK := Lib.hid hok
  have HNM := Lib.hid hnm
  have HBX := Lib.hid hbx
  have HK := Lib.hid hk
  have hsx := hv.store
  obtain ⟨W1, hW1⟩ : ∃ W1, W1 = w.alloc (.cells #[u] 36) := ⟨_, rfl⟩
  have HA := Lib.hid (show At1 W1 w.heap.size u by rw [hW1]; exact At1.new _ _ _)
  have HB := Lib.hid (show Below w.heap.size w W1 by rw [hW1]; exact below_new _ _)
  have HV := Lib.hid (hv.grow HB.out)
  have hfold := hW1.symm
  have cHA := HA.out.2.1
  clear ih hok hnm hbx hk hv hW1
  go_enter Tryz.func24, Tryz.ntmps24
  go_wp2_with fail
  refine (hhas1_yes _ _ _ _ HV.out HK.out).mono ?_
  rintro e W2 ⟨rfl, hB⟩
  clear cHA hfold
  replace HA := Lib.hid (HA.out.below hB)
  replace HV := Lib.hid (HV.out.grow hB)
  replace HB := Lib.hid (HB.out.trans (hB.mono HB.out.size))
  clear hB
  have cHA := HA.out.2.1
  go_wp2_with fail
  refine (class_calls _ _ _ HV.out).mono ?_
  rintro e W3 ⟨rfl, hB⟩
  clear cHA
  replace HA := Lib.hid (HA.out.below hB)
  replace HV := Lib.hid (HV.out.grow hB)
  replace HB := Lib.hid (HB.out.trans (hB.mono HB.out.size))
  clear hB
  have cHA := HA.out.2.1
  by_cases hc1 : V.cls = 1
  · have HR := Lib.hid (kyI_char (t := kyP d) (p := plA d) (i := k) hc1)
    rw [hc1]
    clear hc1
    go_wp2_with fail
    refine (vchar_calls _ _ _ _ HV.out).mono ?_
    rintro e W4 ⟨rfl, hB⟩
    clear cHA
    replace HB := Lib.hid (HB.out.trans (hB.mono HB.out.size))
    clear hB
    have HM := Lib.hid (hmixed_calls (uN (atI V.text 0 (k : Int))) W4 (uN_lt _))
    rw [uN_eq] at HM
    go_wp2_with fail
    refine HM.out.mono ?_
    rintro e W5 ⟨rfl, rfl⟩
    go_wp2_with fail
    go_ret
    exact ⟨by rw [HR.out]; rfl, HB.out⟩
  · by_cases hc2 : V.cls = 2
    · have HR := Lib.hid (kyI_box (t := kyP d) (p := plA d) (i := k) hc2)
      have HBL := Lib.hid (VV.boxs_len hc2)
      rw [hc2]
      clear hc1 hc2
      go_wp2_with fail
      refine (vbox_calls _ _ _ _ HV.out HOK.out).mono ?_
      rintro e W4 ⟨sh, ux, rfl, hAr, hB⟩
      have HAR := Lib.hid hAr
      clear cHA hAr
      replace HB := Lib.hid (HB.out.trans (hB.mono HB.out.size))
      clear hB
      go_wp2_with fail
      refine (HIH.out _ _ _ _ _ (HBX.out _ (atI_mem (by rw [HBL.out]; exact HK.out))) HAR.out).mono ?_
      rintro e W5 ⟨rfl, hB⟩
      replace HB := Lib.hid (HB.out.trans (hB.mono HB.out.size))
      clear hB
      go_wp2_with fail
      go_ret
      exact ⟨by rw [HR.out]; rfl, HB.out⟩
    · have HR := Lib.hid (kyI_num (t := kyP d) (p := plA d) (i := k) hc1 hc2)
      have h1 : (V.cls == 1) = false := by simpa using hc1
      have h2 : (V.cls == 2) = false := by simpa using hc2
      clear hc1 hc2
      go_wp2_with fail
      refine (num_calls _ _ _ _ HV.out).mono ?_
      rintro e W4 ⟨rfl, hB⟩
      clear cHA
      replace HB := Lib.hid (HB.out.trans (hB.mono HB.out.size))
      clear hB
      have HM := Lib.hid (hmixed_calls (atI V.nums 0 (k : Int)) W4 (numV_any HOK.out HNM.out k).1.1)
      go_wp2_with fail
      refine HM.out.mono ?_
      rintro e W5 ⟨rfl, rfl⟩
      go_wp2_with fail
      go_ret
      exact ⟨by rw [HR.out]; rfl, HB.out⟩

set_option maxHeartbeats 4000000 in
theorem hkeyarr_step (d : Nat) (ih : KeyAt d) : KeyAt (d + 1) := by
  intro ok A sh u w hd hA
  obtain ⟨s, V⟩ := A
  obtain ⟨hpr, hok, hnm, _, hbx⟩ := hd
  obtain ⟨hs, hv⟩ := hA
  simp only at hpr hok hbx hnm hs hv
  obtain ⟨so, sc, rfl, e6, e7, _⟩ := hs.opened
  have hsl := (prodR_len hpr).1
  have hvl := VV.ok_len hok
  have HIH := Lib.hid ih
  have HOK := Lib.hid hok
  have HNM := Lib.hid hnm
  have HBX := Lib.hid hbx
  have hsx := hv.store
  obtain ⟨W1, hW1⟩ : ∃ W1, W1 = w.alloc (.cells #[.slice so s.length sc, u] 38) := ⟨_, rfl⟩
  have HA := Lib.hid (show At2 W1 w.heap.size (.slice so s.length sc) u by rw [hW1]; exact At2.new _ _ _ _)
  have HB := Lib.hid (show Below w.heap.size w W1 by rw [hW1]; exact below_new _ _)
  have HV := Lib.hid (hv.grow HB.out)
  have HS := Lib.hid (hs.below HB.out)
  obtain ⟨L, hL⟩ : ∃ L, (List.range V.len).map (itA (plA d) V) = L := ⟨_, rfl⟩
  have HLL := Lib.hid (show L.length = V.len by rw [← hL]; simp)
  have HLG := Lib.hid (show ∀ k (h : k < L.length), L[k] = itA (plA d) V k by rw [← hL]; intro k h; simp)
  have HRES := Lib.hid (show kyP (d + 1) (plA (d + 1) (s, V)) = kyL (kyP d) (kyS (mxN (uN V.cls)) s) L by rw [← hL]; rfl)
  have hfold := hW1.symm
  obtain ⟨_, a0, a1, _⟩ := HA.out
  clear hpr hok hnm hbx hs hv ih hW1 hL
  go_enter Tryz.func56, Tryz.ntmps56
  go_wp2_with fail
  refine (class_calls _ _ _ HV.out).mono ?_
  rintro e W2 ⟨rfl, hB⟩
  clear a0 a1 hfold
  replace HA := Lib.hid (HA.out.below hB)
  replace HV := Lib.hid (HV.out.grow hB)
  replace HS := Lib.hid (HS.out.below hB)
  replace HB := Lib.hid (HB.out.trans (hB.mono HB.out.size))
  clear hB
  obtain ⟨_, a0, a1, _⟩ := HA.out
  have HM := Lib.hid (hmixed_calls (uN V.cls) W2 (uN_lt _))
  rw [uN_eq] at HM
  go_wp2_with fail
  refine HM.out.mono ?_
  rintro e W3 ⟨rfl, rfl⟩
  clear HM
  obtain ⟨k0, hk0⟩ : ∃ k0, mxN (uN V.cls) = k0 := ⟨_, rfl⟩
  have HK0 := Lib.hid (show k0 < 18446744073709551616 by rw [← hk0]; exact mxN_lt _)
  rw [hk0] at HRES ⊢
  clear hk0
  go_wp2_with fail
  go_loopw [3, 15] (fun v i wr => ∃ k : Nat, k ≤ s.length ∧ i = .int .i64 (k : Int) ∧ v = .int .u64 (kyS k0 (s.take k) : Int) ∧ wr = W2) (fun _ i _ => s.length - (intOf i).toNat)
  case atStart => exact ⟨0, by omega, rfl, rfl, rfl⟩
  case round =>
    obtain ⟨k, hk, rfl, rfl, hwr⟩ := hrel
    have hwr := hwr.symm
    subst hwr
    obtain ⟨kk, hkk⟩ : ∃ kk, kyS k0 (s.take k) = kk := ⟨_, rfl⟩
    have HKK := Lib.hid hkk
    have HKL := Lib.hid (show kk < 18446744073709551616 by rw [← hkk]; exact kyS_lt HK0.out)
    rw [hkk]
    clear hkk
    by_cases hlt : k < s.length
    · obtain ⟨b, off, cap2, x9, e9, hx9, hcx⟩ := Slc.at_map (Value.int .i64) (l := s) HS.out k hlt
      obtain rfl : x9 = s[k] := by rw [List.getElem?_eq_getElem hlt] at hx9; exact (Option.some.inj hx9).symm
      clear hx9
      have HJ := Lib.hid (hjoined_calls kk (uN s[k]) W2 HKL.out (uN_lt _))
      rw [uN_eq] at HJ
      have HSN := Lib.hid (show kyS k0 (s.take (k + 1)) = joN kk (uN s[k]) by rw [kyS_snoc _ _ _ hlt, HKK.out])
      obtain ⟨sk, hsk⟩ : ∃ sk, s[k] = sk := ⟨_, rfl⟩
      rw [hsk] at hcx HJ HSN
      cases e9
      clear hsk
      go_wp2_with fail
      refine HJ.out.mono ?_
      rintro e W9 ⟨rfl, rfl⟩
      go_wp2
      go_roundw
      case rel => exact ⟨k + 1, by omega, by go_num, by rw [HSN.out], trivial⟩
      case measure => simp [intOf]; omega
    · have hkl : k = s.length := by omega
      have HK2 := Lib.hid (show kk = kyS k0 s by rw [← HKK.out, hkl, List.take_length])
      rw [← HK2.out] at HRES
      clear hkl HKK
      have hnlt := hlt
      go_wp2_with fail
      refine (vlen_calls _ _ _ HV.out).mono ?_
      rintro e W4 ⟨rfl, hB⟩
      clear a0 a1
      replace HA := Lib.hid (HA.out.below hB)
      replace HV := Lib.hid (HV.out.grow hB)
      replace HB := Lib.hid (HB.out.trans (hB.mono HB.out.size))
      clear hB hnlt hlt
      obtain ⟨n, hn⟩ : ∃ n, V.len = n := ⟨_, rfl⟩
      have HN := Lib.hid hn
      rw [hn] at HLL hvl ⊢
      clear hn
      go_wp2_with fail
      go_loopw [3, 27] (fun v i wq => ∃ j : Nat, j ≤ n ∧ i = .int .i64 (j : Int) ∧ v = .int .u64 (kyL (kyP d) kk (L.take j) : Int) ∧ Below W4.heap.size W4 wq) (fun _ i _ => n - (intOf i).toNat)
      case atStart => exact ⟨0, by omega, rfl, rfl, Below.refl _ _⟩
      case round =>
        obtain ⟨j, hj, rfl, rfl, hBq⟩ := hrel
        have HBQ := Lib.hid hBq
        clear hBq
        obtain ⟨kx, hkx⟩ : ∃ kx, kyL (kyP d) kk (L.take j) = kx := ⟨_, rfl⟩
        have HKX := Lib.hid hkx
        have HKXL := Lib.hid (show kx < 18446744073709551616 by rw [← hkx]; exact kyL_lt HKL.out)
        rw [hkx]
        clear hkx
        have HAq := Lib.hid (HA.out.below HBQ.out)
        have HVq := Lib.hid (HV.out.grow HBQ.out)
        obtain ⟨_, a0, a1, _⟩ := HAq.out
        by_cases hlt : j < n
        · have HSN := Lib.hid (show kyL (kyP d) kk (L.take (j + 1)) = joN kx (kyI (kyP d) (itA (plA d) V j)) by
            rw [kyL_snoc _ _ _ _ (by rw [HLL.out]; exact hlt), HKX.out, HLG.out])
          go_wp2_with fail
          refine (hkey_at d HIH.out _ _ _ _ HOK.out HNM.out HBX.out (by rw [HN.out]; exact hlt) HVq.out).mono ?_
          rintro e W5 ⟨rfl, hB⟩
          clear a0 a1
          replace HBQ := Lib.hid (HBQ.out.trans (hB.mono HBQ.out.size))
          clear hB
          go_wp2_with fail
          refine (hjoined_calls kx _ _ HKXL.out (kyI_lt _ _)).mono ?_
          rintro e W6 ⟨rfl, rfl⟩
          go_wp2
          go_roundw
          case rel => exact ⟨j + 1, by omega, by go_num, by rw [HSN.out], HBQ.out⟩
          case measure => simp [intOf]; omega
        · have hjl : j = n := by omega
          have HE := Lib.hid (show kx = kyL (kyP d) kk L by rw [← HKX.out, hjl, ← HLL.out, List.take_length])
          clear hjl
          go_wp2
          go_ret
          exact ⟨by rw [HRES.out, HE.out]; rfl, HB.out.trans (HBQ.out.mono HB.out.size)⟩
theorem hkeyarr_calls : ∀ d, KeyAt d := by
  intro d
  induction d with
  | zero => intro ok A sh u w h; exact h.elim
  | succ d ih => exact hkeyarr_step d ih
end Go.Proofs.YtbdhibcbpgjbmaaGreatDoor

/- Layer 19, walked: a table's parts: made, first, next, holds, makeRoom. -/
namespace Go.Proofs.YtbdhibcbpgjbmaaGreatDoor
set_option maxRecDepth 100000
open Go.RowKit Fl
set_option linter.unusedVariables false

/-- A table in memory: its block, its slots' block. -/
def TabM (w : World) (b0 tb sb : Nat) (u : Value) (S : List (Nat × Int)) (h : Nat) : Prop :=
  b0 ≤ tb ∧ b0 ≤ sb ∧ tb ≠ sb ∧ At3 w tb u (.slice (some ⟨sb, 0, none⟩) S.length S.length) (.int .i64 (h : Int)) ∧ RowH w sb S
theorem TabM.below {w w' : World} {b0 tb sb : Nat} {u : Value} {S : List (Nat × Int)} {h : Nat} (t : TabM w b0 tb sb u S h) (hb : Below w.heap.size w w') : TabM w' b0 tb sb u S h :=
  ⟨t.1, t.2.1, t.2.2.1, t.2.2.2.1.below hb, t.2.2.2.2.below hb⟩

theorem hmade_calls {b0 tb sb : Nat} {u : Value} {S : List (Nat × Int)} {h : Nat} (w : World) (t : TabM w b0 tb sb u S h) (hp : 0 < S.length) : Calls Tryz.prog 67 #[.pointer (some ⟨tb, 0, none⟩)] w (BoolIs true w) := by
  have hc := t.2.2.2.1.2.2.1
  have hp2 : (0 : Int) < (S.length : Int) := by omega
  go_enter Tryz.func67, Tryz.ntmps67
  go_wp2_with fail
  go_ret
  exact BoolIs.mk rfl (Below.refl _ _)
theorem hfirst_calls {b0 tb sb : Nat} {u : Value} {S : List (Nat × Int)} {h : Nat} (k : Nat) (w : World) (t : TabM w b0 tb sb u S h) (hp : 0 < S.length) (hm : S.length ≤ 4000000) (hk : k < 18446744073709551616) :
    Calls Tryz.prog 98 #[.pointer (some ⟨tb, 0, none⟩), .int .u64 (k : Int)] w fun e w' => e = .returned (.int .i64 ((k % S.length : Nat) : Int)) ∧ w = w' := by
  have hc := t.2.2.2.1.2.2.1
  obtain ⟨m, hmm⟩ : ∃ m, S.length = m := ⟨_, rfl⟩
  rw [hmm] at hc hp hm ⊢
  have hz : ((m : Int) == 0) = false := by simp; omega
  have h1 : IntKind.u64.wrap (m : Int) = (m : Int) := by rw [IntKind.wrap_u64]; omega
  have hlt := Nat.mod_lt k hp
  have h2 : IntKind.u64.wrap ((k : Int).tmod (m : Int)) = ((k % m : Nat) : Int) := by
    rw [show (k : Int).tmod (m : Int) = ((k % m : Nat) : Int) from rfl, IntKind.wrap_u64]; omega
  go_enter Tryz.func98, Tryz.ntmps98
  go_wp2_with fail
  go_ret
  exact ⟨rfl, rfl⟩
theorem hnext_calls {b0 tb sb : Nat} {u : Value} {S : List (Nat × Int)} {h : Nat} (s : Nat) (w : World) (t : TabM w b0 tb sb u S h) (hp : 0 < S.length) (hm : S.length ≤ 4000000) (hs : s < S.length) :
    Calls Tryz.prog 100 #[.pointer (some ⟨tb, 0, none⟩), .int .i64 (s : Int)] w fun e w' => e = .returned (.int .i64 (((s + 1) % S.length : Nat) : Int)) ∧ w = w' := by
  have hc := t.2.2.2.1.2.2.1
  obtain ⟨m, hmm⟩ : ∃ m, S.length = m := ⟨_, rfl⟩
  rw [hmm] at hc hp hm hs ⊢
  have hz : ((m : Int) == 0) = false := by simp; omega
  go_enter Tryz.func100, Tryz.ntmps100
  go_wp2_with fail
  go_ret
  exact ⟨rfl, rfl⟩
set_option maxHeartbeats 4000000 in
theorem hroom_calls {b0 tb sb : Nat} {u : Value} {S : List (Nat × Int)} {h : Nat} (w : World) (t : TabM w b0 tb sb u S h) (hm : S.length ≤ 4000000) (hh : 2 * h ≤ S.length) :
    Calls Tryz.prog 69 #[.pointer (some ⟨tb, 0, none⟩)] w fun e w' => e = .returned (.tuple #[]) ∧ Below w.heap.size w w' := by
  have hc := t.2.2.2.1.2.2.1
  have hd := t.2.2.2.1.2.2.2.1
  obtain ⟨m, hmm⟩ : ∃ m, S.length = m := ⟨_, rfl⟩
  rw [hmm] at hc hm hh
  have h1 : IntKind.i64.wrap (2 * (h : Int)) = ((2 * h : Nat) : Int) := by rw [IntWalk.i64_in _ (by omega)]; omega
  have h2 : (((2 * h : Nat) : Int) ≤ (m : Int)) := by omega
  go_enter Tryz.func69, Tryz.ntmps69
  go_wp2_with fail
  go_quiet (fail)
  go_wp2_with fail
  refine bodyPost_ret (v := .tuple #[]) (by simp [results, Tryz.results69, go_sem]) rfl ?_
  exact ⟨rfl, Below.drewN' (Below.refl _ _) _⟩
theorem alike39 {ok ok2 : Nat → Prop} (u u2 : Value) (V V2 : VV) (i k : Nat) (w : World) (hok : V.ok) (hok2 : V2.ok) (hnm : V.nm) (hnm2 : V2.nm) (hbx : ∀ a ∈ V.boxs, gA 39 a) (hbx2 : ∀ a ∈ V2.boxs, gA 39 a)
    (hk : i < V.len) (hk2 : k < V2.len) (hv : IsV w ok u V) (hv2 : IsV w ok2 u2 V2) : Calls Tryz.prog 122 #[.agg #[u], .int .i64 (i : Int), .agg #[u2], .int .i64 (k : Int)] w (BoolIs (iq (itA (plA 39) V i) (itA (plA 39) V2 k)) w) :=
  alike_calls 39 (vsame_calls 39) u u2 V V2 i k w hok hok2 hnm hnm2 hbx hbx2 hk hk2 hv hv2
set_option maxHeartbeats 4000000 in
theorem hholds_yes {ok ok2 : Nat → Prop} {b0 tb sb : Nat} {u u2 : Value} {V V2 : VV} {S : List (Nat × Int)} {h : Nat} (key p k : Nat) (w : World) (t : TabM w b0 tb sb u S h)
    (hk1 : V.ok ∧ V.nm ∧ (∀ a ∈ V.boxs, gA 39 a) ∧ p < V.len) (hk2 : V2.ok ∧ V2.nm ∧ (∀ a ∈ V2.boxs, gA 39 a) ∧ k < V2.len) (hv : IsV w ok u V) (hv2 : IsV w ok2 u2 V2) :
    Calls Tryz.prog 99 #[.pointer (some ⟨tb, 0, none⟩), .agg #[.int .u64 (key : Int), .int .i64 (p : Int)], .int .u64 (key : Int), .agg #[u2], .int .i64 (k : Int)] w (BoolIs (iq (itA (plA 39) V p) (itA (plA 39) V2 k)) w) := by
  have hsx := hv.store
  have hsx2 := hv2.store
  obtain ⟨W1, hW1⟩ : ∃ W1, (w.alloc (.cells #[.int .u64 (key : Int), .int .i64 (p : Int)] 110)).alloc (.cells #[u2] 36) = W1 := ⟨_, rfl⟩
  have HS := Lib.hid (show At2 W1 w.heap.size (.int .u64 (key : Int)) (.int .i64 (p : Int)) by rw [← hW1]; exact (At2.new _ _ _ _).below (below_new _ _))
  have HA2 := Lib.hid (show At1 W1 (w.heap.size + 1) u2 by rw [← hW1]; have := At1.new (w.alloc (.cells #[.int .u64 (key : Int), .int .i64 (p : Int)] 110)) u2 36; simpa using this)
  have HB := Lib.hid (show Below w.heap.size w W1 by rw [← hW1]; exact (below_new _ _).alloc (by simp) _)
  have HV := Lib.hid (hv.grow HB.out)
  have HV2 := Lib.hid (hv2.grow HB.out)
  have HT := Lib.hid (t.2.2.2.1.below HB.out)
  have HK := Lib.hid (And.intro hk1 hk2)
  clear hk1 hk2 hv hv2 t
  go_enter Tryz.func99, Tryz.ntmps99
  go_wp2_with fail
  clear hW1
  obtain ⟨W11, hWD⟩ : ∃ xw9, W1.drew = xw9 := ⟨_, rfl⟩
  have hB : Below W1.heap.size W1 W11 := by rw [← hWD]; exact Below.drewN' (Below.refl _ _) 1
  replace HS := Lib.hid (HS.out.below hB)
  replace HA2 := Lib.hid (HA2.out.below hB)
  replace HT := Lib.hid (HT.out.below hB)
  replace HB := Lib.hid (HB.out.trans (hB.mono HB.out.size))
  replace HV := Lib.hid (HV.out.grow hB)
  replace HV2 := Lib.hid (HV2.out.grow hB)
  clear hB
  refine wp_region_held_drew (S := fun w' => w'.cell? ⟨w.heap.size, 0, none⟩ = some (.int .u64 (key : Int)) ∧ w'.cell? ⟨w.heap.size, 1, none⟩ = some (.int .i64 (p : Int)) ∧ w'.cell? ⟨w.heap.size + 1, 0, none⟩ = some (u2) ∧ w'.cell? ⟨tb, 0, none⟩ = some (u) ∧ w'.cell? ⟨tb, 1, none⟩ = some (.slice (some ⟨sb, 0, none⟩) S.length S.length) ∧ w'.cell? ⟨tb, 2, none⟩ = some (.int .i64 (h : Int))) (by kernel_rfl) (by rw [hWD]; exact ⟨HS.out.2.1, HS.out.2.2.1, HA2.out.2.1, HT.out.2.1, HT.out.2.2.1, HT.out.2.2.2.1⟩) (fun hHeld => ?_)
  rw [hWD] at hHeld ⊢
  clear hWD
  refine wpAnyH_take (i := 0) (v := ?_) rfl (by kernel_rfl) (by kernel_rfl) (by kernel_rfl) (fun _ _ _ h => h) (Or.inl ⟨by rfl, ?_⟩) (by assumption) ?_
  rotate_left
  · (intro w hSw; (try dsimp only at hSw); go_simp; try with_reducible rfl)
  simp only [Act.put, List.getElem_toArray, List.getElem_cons_zero, List.setIfInBounds_toArray, List.set_cons_zero, List.set_cons_succ]
  refine wpAnyH_take (i := 1) (v := ?_) rfl (by kernel_rfl) (by kernel_rfl) (by kernel_rfl) (fun _ _ _ h => h) (Or.inl ⟨by rfl, ?_⟩) (by assumption) ?_
  rotate_left
  · (intro w hSw; (try dsimp only at hSw); go_simp; try with_reducible rfl)
  simp only [Act.put, List.getElem_toArray, List.getElem_cons_succ, List.getElem_cons_zero, List.setIfInBounds_toArray, List.set_cons_zero, List.set_cons_succ]
  refine wpAnyH_take (i := 2) (v := ?_) rfl (by kernel_rfl) (by kernel_rfl) (by kernel_rfl) (fun _ _ _ h => h) (Or.inl ⟨by rfl, ?_⟩) (by assumption) ?_
  rotate_left
  · (intro w hSw; (try dsimp only at hSw); go_simp; try with_reducible rfl)
  simp only [Act.put, List.getElem_toArray, List.getElem_cons_succ, List.getElem_cons_zero, List.setIfInBounds_toArray, List.set_cons_zero, List.set_cons_succ]
  refine wpAnyH_take (i := 3) (v := ?_) rfl (by kernel_rfl) (by kernel_rfl) (by kernel_rfl) (fun _ _ _ h => h) (Or.inl ⟨by rfl, ?_⟩) (by assumption) ?_
  rotate_left
  · (intro w hSw; (try dsimp only at hSw); go_simp; try with_reducible rfl)
  simp only [Act.put, List.getElem_toArray, List.getElem_cons_succ, List.getElem_cons_zero, List.setIfInBounds_toArray, List.set_cons_zero, List.set_cons_succ]
  refine wpAnyH_take (i := 4) (v := ?_) rfl (by kernel_rfl) (by kernel_rfl) (by kernel_rfl) (fun _ _ _ h => h) (Or.inl ⟨by rfl, ?_⟩) (by assumption) ?_
  rotate_left
  · (intro w hSw; (try dsimp only at hSw); go_simp; try with_reducible rfl)
  simp only [Act.put, List.getElem_toArray, List.getElem_cons_succ, List.getElem_cons_zero, List.setIfInBounds_toArray, List.set_cons_zero, List.set_cons_succ]
  refine wpAnyH_take (i := 5) (v := ?_) rfl (by kernel_rfl) (by kernel_rfl) (by kernel_rfl) (fun _ _ _ h => h) (Or.inl ⟨by rfl, ?_⟩) (by assumption) ?_
  rotate_left
  · (intro w hSw; (try dsimp only at hSw); go_simp; try with_reducible rfl)
  simp only [Act.put, List.getElem_toArray, List.getElem_cons_succ, List.getElem_cons_zero, List.setIfInBounds_toArray, List.set_cons_zero, List.set_cons_succ]
  refine wpAnyH_take (i := 6) (v := ?_) rfl (by kernel_rfl) (by kernel_rfl) (by kernel_rfl) (fun _ _ _ h => h) (Or.inl ⟨by rfl, ?_⟩) (by assumption) ?_
  rotate_left
  · (intro w hSw; (try dsimp only at hSw); go_simp; try with_reducible rfl)
  simp only [Act.put, List.getElem_toArray, List.getElem_cons_succ, List.getElem_cons_zero, List.setIfInBounds_toArray, List.set_cons_zero, List.set_cons_succ]
  refine wpAnyH_take (i := 7) (v := ?_) rfl (by kernel_rfl) (by kernel_rfl) (by kernel_rfl) (fun _ _ _ h => h) (Or.inl ⟨by rfl, ?_⟩) (by assumption) ?_
  rotate_left
  · (intro w hSw; (try dsimp only at hSw); go_simp; try with_reducible rfl)
  simp only [Act.put, List.getElem_toArray, List.getElem_cons_succ, List.getElem_cons_zero, List.setIfInBounds_toArray, List.set_cons_zero, List.set_cons_succ]
  refine wpAnyH_take (i := 8) (v := ?_) rfl (by kernel_rfl) (by kernel_rfl) (by kernel_rfl) (fun _ _ _ h => h) (Or.inl ⟨by rfl, ?_⟩) (by assumption) ?_
  rotate_left
  · (intro w hSw; (try dsimp only at hSw); go_simp; try with_reducible rfl)
  simp only [Act.put, List.getElem_toArray, List.getElem_cons_succ, List.getElem_cons_zero, List.setIfInBounds_toArray, List.set_cons_zero, List.set_cons_succ]
  refine wpAnyH_take (i := 9) (v := ?_) rfl (by kernel_rfl) (by kernel_rfl) (by kernel_rfl) (fun _ _ _ h => h) (Or.inl ⟨by rfl, ?_⟩) (by assumption) ?_
  rotate_left
  · (intro w hSw; (try dsimp only at hSw); go_simp; try with_reducible rfl)
  simp only [Act.put, List.getElem_toArray, List.getElem_cons_succ, List.getElem_cons_zero, List.setIfInBounds_toArray, List.set_cons_zero, List.set_cons_succ]
  refine wpAnyH_take (i := 10) (v := ?_) rfl (by kernel_rfl) (by kernel_rfl) (by kernel_rfl) (fun _ _ _ h => h) (Or.inl ⟨by rfl, ?_⟩) (by assumption) ?_
  rotate_left
  · (intro w hSw; (try dsimp only at hSw); go_simp; try with_reducible rfl)
  simp only [Act.put, List.getElem_toArray, List.getElem_cons_succ, List.getElem_cons_zero, List.setIfInBounds_toArray, List.set_cons_zero, List.set_cons_succ]
  refine wpAnyH_take (i := 11) (v := ?_) rfl (by kernel_rfl) (by kernel_rfl) (by kernel_rfl) (fun _ _ _ h => h) (Or.inl ⟨by rfl, ?_⟩) (by assumption) ?_
  rotate_left
  · (intro w hSw; (try dsimp only at hSw); go_simp; try with_reducible rfl)
  simp only [Act.put, List.getElem_toArray, List.getElem_cons_succ, List.getElem_cons_zero, List.setIfInBounds_toArray, List.set_cons_zero, List.set_cons_succ]
  refine wpAnyH_take (i := 12) (v := ?_) rfl (by kernel_rfl) (by kernel_rfl) (by kernel_rfl) (fun _ _ _ h => h) (Or.inl ⟨by rfl, ?_⟩) (by assumption) ?_
  rotate_left
  · (intro w hSw; (try dsimp only at hSw); go_simp; try with_reducible rfl)
  simp only [Act.put, List.getElem_toArray, List.getElem_cons_succ, List.getElem_cons_zero, List.setIfInBounds_toArray, List.set_cons_zero, List.set_cons_succ]
  refine wpAnyH_ready (rs := [13]) (by kernel_rfl) (by simp) ?_
  refine AllReadyH.cons (o := _) rfl (fun K hK => ?_) AllReadyH.nil
  clear hHeld
  go_simp
  refine (alike39 u u2 V V2 p k _ HK.out.1.1 HK.out.2.1 HK.out.1.2.1 HK.out.2.2.1 HK.out.1.2.2.1 HK.out.2.2.2.1 HK.out.1.2.2.2 HK.out.2.2.2.2 HV.out HV2.out).mono ?_
  rintro e W12 ⟨rfl, hB⟩
  replace HS := Lib.hid (HS.out.below hB)
  replace HA2 := Lib.hid (HA2.out.below hB)
  replace HT := Lib.hid (HT.out.below hB)
  replace HB := Lib.hid (HB.out.trans (hB.mono HB.out.size))
  replace HV := Lib.hid (HV.out.grow hB)
  replace HV2 := Lib.hid (HV2.out.grow hB)
  clear hB
  try go_simp
  refine hK.out _ _ ?_ (fun hHeld => ?_)
  · exact ⟨HS.out.2.1, HS.out.2.2.1, HA2.out.2.1, HT.out.2.1, HT.out.2.2.1, HT.out.2.2.2.1⟩
  clear hK K
  refine wpAnyH_take (i := 14) (v := ?_) rfl (by kernel_rfl) (by kernel_rfl) (by kernel_rfl) (fun _ _ _ h => h) (Or.inl ⟨by rfl, ?_⟩) (by assumption) ?_
  rotate_left
  · (intro w hSw; (try dsimp only at hSw); go_simp; try with_reducible rfl)
  simp only [Act.put, List.getElem_toArray, List.getElem_cons_succ, List.getElem_cons_zero, List.setIfInBounds_toArray, List.set_cons_zero, List.set_cons_succ]
  refine wpAnyH_take (i := 15) (v := ?_) rfl (by kernel_rfl) (by kernel_rfl) (by kernel_rfl) (fun _ _ _ h => h) (Or.inl ⟨by rfl, ?_⟩) (by assumption) ?_
  rotate_left
  · (intro w hSw; (try dsimp only at hSw); go_simp; try with_reducible rfl)
  simp only [Act.put, List.getElem_toArray, List.getElem_cons_succ, List.getElem_cons_zero, List.setIfInBounds_toArray, List.set_cons_zero, List.set_cons_succ]
  refine wpAnyH_done (by kernel_rfl) ?_ _
  clear hHeld
  go_wp2_with fail
  go_ret
  exact BoolIs.mk rfl HB.out
set_option maxHeartbeats 4000000 in
theorem hholds_no {ok2 : Nat → Prop} {V2 : VV} {b0 tb sb : Nat} {u u2 : Value} {S : List (Nat × Int)} {h : Nat} (key key2 k : Nat) (p : Int) (w : World) (t : TabM w b0 tb sb u S h) (hne : key2 ≠ key) (hv2 : IsV w ok2 u2 V2) :
    Calls Tryz.prog 99 #[.pointer (some ⟨tb, 0, none⟩), .agg #[.int .u64 (key2 : Int), .int .i64 (p : Int)], .int .u64 (key : Int), .agg #[u2], .int .i64 (k : Int)] w (BoolIs false w) := by
  have hsx2 := hv2.store
  obtain ⟨W1, hW1⟩ : ∃ W1, (w.alloc (.cells #[.int .u64 (key2 : Int), .int .i64 (p : Int)] 110)).alloc (.cells #[u2] 36) = W1 := ⟨_, rfl⟩
  have HS := Lib.hid (show At2 W1 w.heap.size (.int .u64 (key2 : Int)) (.int .i64 (p : Int)) by rw [← hW1]; exact (At2.new _ _ _ _).below (below_new _ _))
  have HA2 := Lib.hid (show At1 W1 (w.heap.size + 1) u2 by rw [← hW1]; have := At1.new (w.alloc (.cells #[.int .u64 (key2 : Int), .int .i64 (p : Int)] 110)) u2 36; simpa using this)
  have HB := Lib.hid (show Below w.heap.size w W1 by rw [← hW1]; exact (below_new _ _).alloc (by simp) _)
  have HT := Lib.hid (t.2.2.2.1.below HB.out)
  have hkk : ((key2 : Int) == (key : Int)) = false := by simp; omega
  clear hne t hv2
  go_enter Tryz.func99, Tryz.ntmps99
  go_wp2_with fail
  clear hW1
  obtain ⟨W11, hWD⟩ : ∃ xw9, W1.drew = xw9 := ⟨_, rfl⟩
  have hB : Below W1.heap.size W1 W11 := by rw [← hWD]; exact Below.drewN' (Below.refl _ _) 1
  replace HS := Lib.hid (HS.out.below hB)
  replace HA2 := Lib.hid (HA2.out.below hB)
  replace HT := Lib.hid (HT.out.below hB)
  replace HB := Lib.hid (HB.out.trans (hB.mono HB.out.size))
  clear hB
  refine wp_region_held_drew (S := fun w' => w'.cell? ⟨w.heap.size, 0, none⟩ = some (.int .u64 (key2 : Int)) ∧ w'.cell? ⟨w.heap.size, 1, none⟩ = some (.int .i64 (p : Int)) ∧ w'.cell? ⟨w.heap.size + 1, 0, none⟩ = some (u2) ∧ w'.cell? ⟨tb, 0, none⟩ = some (u) ∧ w'.cell? ⟨tb, 1, none⟩ = some (.slice (some ⟨sb, 0, none⟩) S.length S.length) ∧ w'.cell? ⟨tb, 2, none⟩ = some (.int .i64 (h : Int))) (by kernel_rfl) (by rw [hWD]; exact ⟨HS.out.2.1, HS.out.2.2.1, HA2.out.2.1, HT.out.2.1, HT.out.2.2.1, HT.out.2.2.2.1⟩) (fun hHeld => ?_)
  rw [hWD] at hHeld ⊢
  clear hWD
  refine wpAnyH_take (i := 0) (v := ?_) rfl (by kernel_rfl) (by kernel_rfl) (by kernel_rfl) (fun _ _ _ h => h) (Or.inl ⟨by rfl, ?_⟩) (by assumption) ?_
  rotate_left
  · (intro w hSw; (try dsimp only at hSw); go_simp; try with_reducible rfl)
  simp only [Act.put, List.getElem_toArray, List.getElem_cons_zero, List.setIfInBounds_toArray, List.set_cons_zero, List.set_cons_succ]
  refine wpAnyH_take (i := 1) (v := ?_) rfl (by kernel_rfl) (by kernel_rfl) (by kernel_rfl) (fun _ _ _ h => h) (Or.inl ⟨by rfl, ?_⟩) (by assumption) ?_
  rotate_left
  · (intro w hSw; (try dsimp only at hSw); go_simp; try with_reducible rfl)
  simp only [Act.put, List.getElem_toArray, List.getElem_cons_succ, List.getElem_cons_zero, List.setIfInBounds_toArray, List.set_cons_zero, List.set_cons_succ]
  refine wpAnyH_take (i := 2) (v := ?_) rfl (by kernel_rfl) (by kernel_rfl) (by kernel_rfl) (fun _ _ _ h => h) (Or.inl ⟨by rfl, ?_⟩) (by assumption) ?_
  rotate_left
  · (intro w hSw; (try dsimp only at hSw); go_simp; try with_reducible rfl)
  simp only [Act.put, List.getElem_toArray, List.getElem_cons_succ, List.getElem_cons_zero, List.setIfInBounds_toArray, List.set_cons_zero, List.set_cons_succ]
  refine wpAnyH_take (i := 3) (v := ?_) rfl (by kernel_rfl) (by kernel_rfl) (by kernel_rfl) (fun _ _ _ h => h) (Or.inl ⟨by rfl, ?_⟩) (by assumption) ?_
  rotate_left
  · (intro w hSw; (try dsimp only at hSw); go_simp; try with_reducible rfl)
  simp only [Act.put, List.getElem_toArray, List.getElem_cons_succ, List.getElem_cons_zero, List.setIfInBounds_toArray, List.set_cons_zero, List.set_cons_succ]
  refine wpAnyH_take (i := 4) (v := ?_) rfl (by kernel_rfl) (by kernel_rfl) (by kernel_rfl) (fun _ _ _ h => h) (Or.inl ⟨by rfl, ?_⟩) (by assumption) ?_
  rotate_left
  · (intro w hSw; (try dsimp only at hSw); go_simp; try with_reducible rfl)
  simp only [Act.put, List.getElem_toArray, List.getElem_cons_succ, List.getElem_cons_zero, List.setIfInBounds_toArray, List.set_cons_zero, List.set_cons_succ]
  refine wpAnyH_take (i := 5) (v := undef) rfl (by kernel_rfl) (by kernel_rfl) (by kernel_rfl) (fun _ _ _ h => h) (Or.inr ⟨by rfl, rfl⟩) (by assumption) ?_
  simp only [Act.put, List.getElem_toArray, List.getElem_cons_succ, List.getElem_cons_zero, List.setIfInBounds_toArray, List.set_cons_zero, List.set_cons_succ]
  refine wpAnyH_take (i := 6) (v := undef) rfl (by kernel_rfl) (by kernel_rfl) (by kernel_rfl) (fun _ _ _ h => h) (Or.inr ⟨by rfl, rfl⟩) (by assumption) ?_
  simp only [Act.put, List.getElem_toArray, List.getElem_cons_succ, List.getElem_cons_zero, List.setIfInBounds_toArray, List.set_cons_zero, List.set_cons_succ]
  refine wpAnyH_take (i := 7) (v := undef) rfl (by kernel_rfl) (by kernel_rfl) (by kernel_rfl) (fun _ _ _ h => h) (Or.inr ⟨by rfl, rfl⟩) (by assumption) ?_
  simp only [Act.put, List.getElem_toArray, List.getElem_cons_succ, List.getElem_cons_zero, List.setIfInBounds_toArray, List.set_cons_zero, List.set_cons_succ]
  refine wpAnyH_take (i := 8) (v := undef) rfl (by kernel_rfl) (by kernel_rfl) (by kernel_rfl) (fun _ _ _ h => h) (Or.inr ⟨by rfl, rfl⟩) (by assumption) ?_
  simp only [Act.put, List.getElem_toArray, List.getElem_cons_succ, List.getElem_cons_zero, List.setIfInBounds_toArray, List.set_cons_zero, List.set_cons_succ]
  refine wpAnyH_take (i := 9) (v := undef) rfl (by kernel_rfl) (by kernel_rfl) (by kernel_rfl) (fun _ _ _ h => h) (Or.inr ⟨by rfl, rfl⟩) (by assumption) ?_
  simp only [Act.put, List.getElem_toArray, List.getElem_cons_succ, List.getElem_cons_zero, List.setIfInBounds_toArray, List.set_cons_zero, List.set_cons_succ]
  refine wpAnyH_take (i := 10) (v := undef) rfl (by kernel_rfl) (by kernel_rfl) (by kernel_rfl) (fun _ _ _ h => h) (Or.inr ⟨by rfl, rfl⟩) (by assumption) ?_
  simp only [Act.put, List.getElem_toArray, List.getElem_cons_succ, List.getElem_cons_zero, List.setIfInBounds_toArray, List.set_cons_zero, List.set_cons_succ]
  refine wpAnyH_take (i := 11) (v := undef) rfl (by kernel_rfl) (by kernel_rfl) (by kernel_rfl) (fun _ _ _ h => h) (Or.inr ⟨by rfl, rfl⟩) (by assumption) ?_
  simp only [Act.put, List.getElem_toArray, List.getElem_cons_succ, List.getElem_cons_zero, List.setIfInBounds_toArray, List.set_cons_zero, List.set_cons_succ]
  refine wpAnyH_take (i := 12) (v := undef) rfl (by kernel_rfl) (by kernel_rfl) (by kernel_rfl) (fun _ _ _ h => h) (Or.inr ⟨by rfl, rfl⟩) (by assumption) ?_
  simp only [Act.put, List.getElem_toArray, List.getElem_cons_succ, List.getElem_cons_zero, List.setIfInBounds_toArray, List.set_cons_zero, List.set_cons_succ]
  refine wpAnyH_take (i := 13) (v := undef) rfl (by kernel_rfl) (by kernel_rfl) (by kernel_rfl) (fun _ _ _ h => h) (Or.inr ⟨by rfl, rfl⟩) (by assumption) ?_
  simp only [Act.put, List.getElem_toArray, List.getElem_cons_succ, List.getElem_cons_zero, List.setIfInBounds_toArray, List.set_cons_zero, List.set_cons_succ]
  refine wpAnyH_take (i := 14) (v := ?_) rfl (by kernel_rfl) (by kernel_rfl) (by kernel_rfl) (fun _ _ _ h => h) (Or.inl ⟨by rfl, ?_⟩) (by assumption) ?_
  rotate_left
  · (intro w hSw; (try dsimp only at hSw); go_simp; try with_reducible rfl)
  simp only [Act.put, List.getElem_toArray, List.getElem_cons_succ, List.getElem_cons_zero, List.setIfInBounds_toArray, List.set_cons_zero, List.set_cons_succ]
  refine wpAnyH_take (i := 15) (v := ?_) rfl (by kernel_rfl) (by kernel_rfl) (by kernel_rfl) (fun _ _ _ h => h) (Or.inl ⟨by rfl, ?_⟩) (by assumption) ?_
  rotate_left
  · (intro w hSw; (try dsimp only at hSw); go_simp; try with_reducible rfl)
  simp only [Act.put, List.getElem_toArray, List.getElem_cons_succ, List.getElem_cons_zero, List.setIfInBounds_toArray, List.set_cons_zero, List.set_cons_succ]
  refine wpAnyH_done (by kernel_rfl) ?_ _
  clear hHeld
  go_wp2_with fail
  go_ret
  exact BoolIs.mk rfl HB.out
end Go.Proofs.YtbdhibcbpgjbmaaGreatDoor

/- Layer 19, walked: where a search ends. Written by tools/gen_hax.py. -/
namespace Go.Proofs.YtbdhibcbpgjbmaaGreatDoor
set_option maxRecDepth 100000
open Go.RowKit Fl
set_option linter.unusedVariables false

/-- A vector whose items have keys: numbers, of sizes that fit, its boxes good. -/
def HV19 (V : VV) : Prop := V.ok ∧ V.nm ∧ ∀ a ∈ V.boxs, gA 39 a
noncomputable def itH (V : VV) (i : Nat) : PI := itA (plA 39) V i
noncomputable def kH (x : PI) : Nat := kyI (kyP 39) x
theorem kH_lt (x : PI) : kH x < 18446744073709551616 := kyI_lt _ _
theorem back (m k d : Nat) (hd : d < m) : ((k + d) % m + m - k % m) % m = d := by
  have hm : 0 < m := by omega
  obtain ⟨r, hr⟩ : ∃ r, k % m = r := ⟨_, rfl⟩
  have hrl : r < m := by rw [← hr]; exact Nat.mod_lt _ hm
  rw [← Nat.mod_add_mod, hr]
  by_cases h : r + d < m
  · rw [Nat.mod_eq_of_lt h, show r + d + m - r = d + m by omega, Nat.add_mod_right, Nat.mod_eq_of_lt hd]
  · have e : (r + d) % m = r + d - m := by
      rw [Nat.mod_eq_sub_mod (by omega), Nat.mod_eq_of_lt (by omega)]
    rw [e, show r + d - m + m - r = d by omega, Nat.mod_eq_of_lt hd]
set_option maxHeartbeats 8000000 in
theorem hslot_calls {ok ok2 : Nat → Prop} {b0 tb sb : Nat} {u u2 : Value} {V V2 : VV} {S : List (Nat × Int)} {h : Nat} {P : List Nat} (k : Nat) (w : World) (t : TabM w b0 tb sb u S h) (hm : S.length ≤ 4000000)
    (tt : HTab (itH V) kH V.len P S) (hl : P.length < S.length) (hk1 : HV19 V) (hk2 : HV19 V2) (hk : k < V2.len) (hv : IsV w ok u V) (hv2 : IsV w ok2 u2 V2) :
    Calls Tryz.prog 68 #[.pointer (some ⟨tb, 0, none⟩), .int .u64 (kH (itH V2 k) : Int), .agg #[u2], .int .i64 (k : Int)] w fun e w' => ∃ r : Nat, e = .returned (.int .i64 (r : Int)) ∧ SlotRes (itH V) kH P S (itH V2 k) r ∧ Below w.heap.size w w' := by
  have hsx2 := hv2.store
  obtain ⟨m, hmm⟩ : ∃ m, S.length = m := ⟨_, rfl⟩
  have HM := Lib.hid hmm
  have HMP := Lib.hid (show 0 < m by rw [← hmm]; exact tt.pos)
  have HMS2 := Lib.hid (show 0 < S.length from tt.pos)
  have HMX := Lib.hid hm
  have HLP := Lib.hid hl
  have HTT := Lib.hid tt
  have HK := Lib.hid (And.intro hk1 (And.intro hk2 hk))
  obtain ⟨x, hx⟩ : ∃ x, itH V2 k = x := ⟨_, rfl⟩
  have HX := Lib.hid hx
  obtain ⟨key, hkey⟩ : ∃ key, kH x = key := ⟨_, rfl⟩
  have HKEY := Lib.hid hkey
  have HKL := Lib.hid (show key < 18446744073709551616 by rw [← hkey]; exact kH_lt x)
  rw [hx, hkey]
  obtain ⟨W1, hW1⟩ : ∃ W1, w.alloc (.cells #[u2] 36) = W1 := ⟨_, rfl⟩
  have HA2 := Lib.hid (show At1 W1 w.heap.size u2 by rw [← hW1]; exact At1.new _ _ _)
  have HB := Lib.hid (show Below w.heap.size w W1 by rw [← hW1]; exact below_new _ _)
  have HV := Lib.hid (hv.grow HB.out)
  have HV2 := Lib.hid (hv2.grow HB.out)
  have HTM := Lib.hid (t.below HB.out)
  clear hk1 hk2 hk hv hv2 t hm tt hl hx hkey
  go_enter Tryz.func68, Tryz.ntmps68
  go_wp2_with fail
  clear hW1
  refine (hfirst_calls key _ HTM.out HMS2.out HMX.out HKL.out).mono ?_
  rintro e W2 ⟨rfl, rfl⟩
  rw [HM.out]
  go_wp2_with fail
  go_loopw [9] (fun s wr => ∃ d r : Nat, s = .int .i64 (r : Int) ∧ d < m ∧ r = (key + d) % m ∧ (∀ e, e < d → Miss (itH V) P S x ((key + e) % m)) ∧ Below W1.heap.size W1 wr) (fun s _ => m - ((intOf s).toNat + m - key % m) % m)
  case atStart => exact ⟨0, key % m, rfl, HMP.out, rfl, fun e he => absurd he (by omega), Below.refl _ _⟩
  case round =>
    obtain ⟨d, r, rfl, hd, hr, hmiss, hBr⟩ := hrel
    have HBR := Lib.hid hBr
    have HD := Lib.hid hd
    have HR := Lib.hid hr
    have HMI := Lib.hid hmiss
    have hrm : r < m := by rw [hr]; exact Nat.mod_lt _ HMP.out
    have HRM := Lib.hid hrm
    replace HTM := Lib.hid (HTM.out.below hBr)
    replace HV := Lib.hid (HV.out.grow hBr)
    replace HV2 := Lib.hid (HV2.out.grow hBr)
    replace HA2 := Lib.hid (HA2.out.below hBr)
    replace HB := Lib.hid (HB.out.trans (hBr.mono HB.out.size))
    have HT := Lib.hid (show At3 wr tb u (.slice (some ⟨sb, 0, none⟩) m m) (.int .i64 (h : Int)) by have := HTM.out.2.2.2.1; rw [HM.out] at this; exact this)
    have hget := sAt_get (S := S) (i := r) (by rw [HM.out]; exact hrm)
    obtain ⟨hc0, hc1⟩ := HTM.out.2.2.2.2.cell hget
    clear hd hr hmiss hBr
    obtain ⟨sl, hsl⟩ : ∃ sl, sAt S r = sl := ⟨_, rfl⟩
    have HSL := Lib.hid hsl
    rw [hsl] at hc0 hc1
    clear hget hsl
    by_cases hemp : sl.2 = -1
    · rw [hemp] at hc1
      have HC := Lib.hid hc1
      have HEM := Lib.hid hemp
      clear hc0 hc1 hemp
      have cHA20 := HA2.out.2.1
      have cHT0 := HT.out.2.1
      have cHT1 := HT.out.2.2.1
      have cHT2 := HT.out.2.2.2.1
      have cHC0 := HC.out
      go_wp2_with fail
      obtain ⟨W11, hWD⟩ : ∃ xw9, wr.drew = xw9 := ⟨_, rfl⟩
      have hB : Below wr.heap.size wr W11 := by rw [← hWD]; exact Below.drewN' (Below.refl _ _) 1
      clear cHA20 cHT0 cHT1 cHT2 cHC0
      replace HA2 := Lib.hid (HA2.out.below hB)
      replace HT := Lib.hid (HT.out.below hB)
      replace HC := Lib.hid (keep_below hB _ _ HC.out)
      replace HB := Lib.hid (HB.out.trans (hB.mono HB.out.size))
      replace HBR := Lib.hid (HBR.out.trans (hB.mono HBR.out.size))
      replace HV := Lib.hid (HV.out.grow hB)
      replace HV2 := Lib.hid (HV2.out.grow hB)
      replace HTM := Lib.hid (HTM.out.below hB)
      clear hB
      refine wp_region_held_drew (S := fun w' => w'.cell? ⟨w.heap.size, 0, none⟩ = some (u2) ∧ w'.cell? ⟨tb, 0, none⟩ = some (u) ∧ w'.cell? ⟨tb, 1, none⟩ = some (.slice (some ⟨sb, 0, none⟩) m m) ∧ w'.cell? ⟨tb, 2, none⟩ = some (.int .i64 (h : Int)) ∧ w'.cell? ⟨sb, r * 2 + 1, none⟩ = some (.int .i64 (-1))) (by kernel_rfl) (by rw [hWD]; exact ⟨HA2.out.2.1, HT.out.2.1, HT.out.2.2.1, HT.out.2.2.2.1, HC.out⟩) (fun hHeld => ?_)
      rw [hWD] at hHeld ⊢
      clear hWD
      refine wpAnyH_take (i := 0) (v := ?_) rfl (by kernel_rfl) (by kernel_rfl) (by kernel_rfl) (fun _ _ _ h => h) (Or.inl ⟨by rfl, ?_⟩) (by assumption) ?_
      rotate_left
      · (intro w hSw; (try dsimp only at hSw); go_simp; try with_reducible rfl)
      simp only [Act.put, List.getElem_toArray, List.getElem_cons_zero, List.setIfInBounds_toArray, List.set_cons_zero, List.set_cons_succ]
      refine wpAnyH_take (i := 1) (v := ?_) rfl (by kernel_rfl) (by kernel_rfl) (by kernel_rfl) (fun _ _ _ h => h) (Or.inl ⟨by rfl, ?_⟩) (by assumption) ?_
      rotate_left
      · (intro w hSw; (try dsimp only at hSw); go_simp; try with_reducible rfl)
      simp only [Act.put, List.getElem_toArray, List.getElem_cons_succ, List.getElem_cons_zero, List.setIfInBounds_toArray, List.set_cons_zero, List.set_cons_succ]
      refine wpAnyH_take (i := 2) (v := ?_) rfl (by kernel_rfl) (by kernel_rfl) (by kernel_rfl) (fun _ _ _ h => h) (Or.inl ⟨by rfl, ?_⟩) (by assumption) ?_
      rotate_left
      · (intro w hSw; (try dsimp only at hSw); go_simp; try with_reducible rfl)
      simp only [Act.put, List.getElem_toArray, List.getElem_cons_succ, List.getElem_cons_zero, List.setIfInBounds_toArray, List.set_cons_zero, List.set_cons_succ]
      refine wpAnyH_take (i := 3) (v := ?_) rfl (by kernel_rfl) (by kernel_rfl) (by kernel_rfl) (fun _ _ _ h => h) (Or.inl ⟨by rfl, ?_⟩) (by assumption) ?_
      rotate_left
      · (intro w hSw; (try dsimp only at hSw); go_simp; try with_reducible rfl)
      simp only [Act.put, List.getElem_toArray, List.getElem_cons_succ, List.getElem_cons_zero, List.setIfInBounds_toArray, List.set_cons_zero, List.set_cons_succ]
      refine wpAnyH_take (i := 4) (v := ?_) rfl (by kernel_rfl) (by kernel_rfl) (by kernel_rfl) (fun _ _ _ h => h) (Or.inl ⟨by rfl, ?_⟩) (by assumption) ?_
      rotate_left
      · (intro w hSw; (try dsimp only at hSw); go_simp; try with_reducible rfl)
      simp only [Act.put, List.getElem_toArray, List.getElem_cons_succ, List.getElem_cons_zero, List.setIfInBounds_toArray, List.set_cons_zero, List.set_cons_succ]
      refine wpAnyH_take (i := 5) (v := ?_) rfl (by kernel_rfl) (by kernel_rfl) (by kernel_rfl) (fun _ _ _ h => h) (Or.inl ⟨by rfl, ?_⟩) (by assumption) ?_
      rotate_left
      · (intro w hSw; (try dsimp only at hSw); go_simp; try with_reducible rfl)
      simp only [Act.put, List.getElem_toArray, List.getElem_cons_succ, List.getElem_cons_zero, List.setIfInBounds_toArray, List.set_cons_zero, List.set_cons_succ]
      refine wpAnyH_take (i := 6) (v := ?_) rfl (by kernel_rfl) (by kernel_rfl) (by kernel_rfl) (fun _ _ _ h => h) (Or.inl ⟨by rfl, ?_⟩) (by assumption) ?_
      rotate_left
      · (intro w hSw; (try dsimp only at hSw); go_simp; try with_reducible rfl)
      simp only [Act.put, List.getElem_toArray, List.getElem_cons_succ, List.getElem_cons_zero, List.setIfInBounds_toArray, List.set_cons_zero, List.set_cons_succ]
      refine wpAnyH_take (i := 7) (v := ?_) rfl (by kernel_rfl) (by kernel_rfl) (by kernel_rfl) (fun _ _ _ h => h) (Or.inl ⟨by rfl, ?_⟩) (by assumption) ?_
      rotate_left
      · (intro w hSw; (try dsimp only at hSw); go_simp; try with_reducible rfl)
      simp only [Act.put, List.getElem_toArray, List.getElem_cons_succ, List.getElem_cons_zero, List.setIfInBounds_toArray, List.set_cons_zero, List.set_cons_succ]
      refine wpAnyH_take (i := 8) (v := ?_) rfl (by kernel_rfl) (by kernel_rfl) (by kernel_rfl) (fun _ _ _ h => h) (Or.inl ⟨by rfl, ?_⟩) (by assumption) ?_
      rotate_left
      · (intro w hSw; (try dsimp only at hSw); go_simp; try with_reducible rfl)
      simp only [Act.put, List.getElem_toArray, List.getElem_cons_succ, List.getElem_cons_zero, List.setIfInBounds_toArray, List.set_cons_zero, List.set_cons_succ]
      refine wpAnyH_take (i := 9) (v := ?_) rfl (by kernel_rfl) (by kernel_rfl) (by kernel_rfl) (fun _ _ _ h => h) (Or.inl ⟨by rfl, ?_⟩) (by assumption) ?_
      rotate_left
      · (intro w hSw; (try dsimp only at hSw); go_simp; try with_reducible rfl)
      simp only [Act.put, List.getElem_toArray, List.getElem_cons_succ, List.getElem_cons_zero, List.setIfInBounds_toArray, List.set_cons_zero, List.set_cons_succ]
      refine wpAnyH_take (i := 10) (v := undef) rfl (by kernel_rfl) (by kernel_rfl) (by kernel_rfl) (fun _ _ _ h => h) (Or.inr ⟨by rfl, rfl⟩) (by assumption) ?_
      simp only [Act.put, List.getElem_toArray, List.getElem_cons_succ, List.getElem_cons_zero, List.setIfInBounds_toArray, List.set_cons_zero, List.set_cons_succ]
      refine wpAnyH_take (i := 11) (v := undef) rfl (by kernel_rfl) (by kernel_rfl) (by kernel_rfl) (fun _ _ _ h => h) (Or.inr ⟨by rfl, rfl⟩) (by assumption) ?_
      simp only [Act.put, List.getElem_toArray, List.getElem_cons_succ, List.getElem_cons_zero, List.setIfInBounds_toArray, List.set_cons_zero, List.set_cons_succ]
      refine wpAnyH_take (i := 12) (v := undef) rfl (by kernel_rfl) (by kernel_rfl) (by kernel_rfl) (fun _ _ _ h => h) (Or.inr ⟨by rfl, rfl⟩) (by assumption) ?_
      simp only [Act.put, List.getElem_toArray, List.getElem_cons_succ, List.getElem_cons_zero, List.setIfInBounds_toArray, List.set_cons_zero, List.set_cons_succ]
      refine wpAnyH_take (i := 13) (v := undef) rfl (by kernel_rfl) (by kernel_rfl) (by kernel_rfl) (fun _ _ _ h => h) (Or.inr ⟨by rfl, rfl⟩) (by assumption) ?_
      simp only [Act.put, List.getElem_toArray, List.getElem_cons_succ, List.getElem_cons_zero, List.setIfInBounds_toArray, List.set_cons_zero, List.set_cons_succ]
      refine wpAnyH_take (i := 14) (v := undef) rfl (by kernel_rfl) (by kernel_rfl) (by kernel_rfl) (fun _ _ _ h => h) (Or.inr ⟨by rfl, rfl⟩) (by assumption) ?_
      simp only [Act.put, List.getElem_toArray, List.getElem_cons_succ, List.getElem_cons_zero, List.setIfInBounds_toArray, List.set_cons_zero, List.set_cons_succ]
      refine wpAnyH_take (i := 15) (v := undef) rfl (by kernel_rfl) (by kernel_rfl) (by kernel_rfl) (fun _ _ _ h => h) (Or.inr ⟨by rfl, rfl⟩) (by assumption) ?_
      simp only [Act.put, List.getElem_toArray, List.getElem_cons_succ, List.getElem_cons_zero, List.setIfInBounds_toArray, List.set_cons_zero, List.set_cons_succ]
      refine wpAnyH_take (i := 16) (v := undef) rfl (by kernel_rfl) (by kernel_rfl) (by kernel_rfl) (fun _ _ _ h => h) (Or.inr ⟨by rfl, rfl⟩) (by assumption) ?_
      simp only [Act.put, List.getElem_toArray, List.getElem_cons_succ, List.getElem_cons_zero, List.setIfInBounds_toArray, List.set_cons_zero, List.set_cons_succ]
      refine wpAnyH_take (i := 17) (v := undef) rfl (by kernel_rfl) (by kernel_rfl) (by kernel_rfl) (fun _ _ _ h => h) (Or.inr ⟨by rfl, rfl⟩) (by assumption) ?_
      simp only [Act.put, List.getElem_toArray, List.getElem_cons_succ, List.getElem_cons_zero, List.setIfInBounds_toArray, List.set_cons_zero, List.set_cons_succ]
      refine wpAnyH_take (i := 18) (v := undef) rfl (by kernel_rfl) (by kernel_rfl) (by kernel_rfl) (fun _ _ _ h => h) (Or.inr ⟨by rfl, rfl⟩) (by assumption) ?_
      simp only [Act.put, List.getElem_toArray, List.getElem_cons_succ, List.getElem_cons_zero, List.setIfInBounds_toArray, List.set_cons_zero, List.set_cons_succ]
      refine wpAnyH_take (i := 19) (v := undef) rfl (by kernel_rfl) (by kernel_rfl) (by kernel_rfl) (fun _ _ _ h => h) (Or.inr ⟨by rfl, rfl⟩) (by assumption) ?_
      simp only [Act.put, List.getElem_toArray, List.getElem_cons_succ, List.getElem_cons_zero, List.setIfInBounds_toArray, List.set_cons_zero, List.set_cons_succ]
      refine wpAnyH_take (i := 20) (v := undef) rfl (by kernel_rfl) (by kernel_rfl) (by kernel_rfl) (fun _ _ _ h => h) (Or.inr ⟨by rfl, rfl⟩) (by assumption) ?_
      simp only [Act.put, List.getElem_toArray, List.getElem_cons_succ, List.getElem_cons_zero, List.setIfInBounds_toArray, List.set_cons_zero, List.set_cons_succ]
      refine wpAnyH_take (i := 21) (v := undef) rfl (by kernel_rfl) (by kernel_rfl) (by kernel_rfl) (fun _ _ _ h => h) (Or.inr ⟨by rfl, rfl⟩) (by assumption) ?_
      simp only [Act.put, List.getElem_toArray, List.getElem_cons_succ, List.getElem_cons_zero, List.setIfInBounds_toArray, List.set_cons_zero, List.set_cons_succ]
      refine wpAnyH_take (i := 22) (v := undef) rfl (by kernel_rfl) (by kernel_rfl) (by kernel_rfl) (fun _ _ _ h => h) (Or.inr ⟨by rfl, rfl⟩) (by assumption) ?_
      simp only [Act.put, List.getElem_toArray, List.getElem_cons_succ, List.getElem_cons_zero, List.setIfInBounds_toArray, List.set_cons_zero, List.set_cons_succ]
      refine wpAnyH_take (i := 23) (v := ?_) rfl (by kernel_rfl) (by kernel_rfl) (by kernel_rfl) (fun _ _ _ h => h) (Or.inl ⟨by rfl, ?_⟩) (by assumption) ?_
      rotate_left
      · (intro w hSw; (try dsimp only at hSw); go_simp; try with_reducible rfl)
      simp only [Act.put, List.getElem_toArray, List.getElem_cons_succ, List.getElem_cons_zero, List.setIfInBounds_toArray, List.set_cons_zero, List.set_cons_succ]
      refine wpAnyH_done (by kernel_rfl) ?_ _
      clear hHeld
      go_wp2_with fail
      go_ret
      refine ⟨r, rfl, ⟨by rw [HM.out]; exact HRM.out, Or.inl ⟨by rw [HSL.out]; exact HEM.out, ?_, d, by rw [HM.out]; exact HD.out, by rw [HKEY.out, HM.out]; exact HR.out, by rw [HKEY.out, HM.out]; exact HMI.out⟩⟩, HB.out⟩
      refine HTT.out.none (d := d) (by rw [HKEY.out, HM.out]; exact HMI.out) ?_
      rw [HKEY.out, HM.out, ← HR.out, HSL.out]
      exact HEM.out
    · have HNE := Lib.hid hemp
      have HFULL := HTT.out.sl r (by rw [HM.out]; exact HRM.out)
      rw [HSL.out] at HFULL
      obtain ⟨p, hp, hsp⟩ := HFULL.resolve_left hemp
      have HP := Lib.hid hp
      have HPL := Lib.hid (HTT.out.lt p hp)
      subst hsp
      have hpm : ((p : Int) != -1) = true := by simp
      have HC := Lib.hid (And.intro hc0 hc1)
      clear hc0 hc1 hemp hp
      by_cases hpx : itH V p = x
      · have HPX := Lib.hid hpx
        have HKE := Lib.hid (show kH (itH V p) = key by rw [hpx]; exact HKEY.out)
        clear hpx
        rw [HKE.out] at HC
        have cHA20 := HA2.out.2.1
        have cHT0 := HT.out.2.1
        have cHT1 := HT.out.2.2.1
        have cHT2 := HT.out.2.2.2.1
        have cHC0 := HC.out.1
        have cHC1 := HC.out.2
        go_wp2_with fail
        obtain ⟨W11, hWD⟩ : ∃ xw9, wr.drew = xw9 := ⟨_, rfl⟩
        have hB : Below wr.heap.size wr W11 := by rw [← hWD]; exact Below.drewN' (Below.refl _ _) 1
        clear cHA20 cHT0 cHT1 cHT2 cHC0 cHC1
        replace HA2 := Lib.hid (HA2.out.below hB)
        replace HT := Lib.hid (HT.out.below hB)
        replace HC := Lib.hid (And.intro (keep_below hB _ _ HC.out.1) (keep_below hB _ _ HC.out.2))
        replace HB := Lib.hid (HB.out.trans (hB.mono HB.out.size))
        replace HBR := Lib.hid (HBR.out.trans (hB.mono HBR.out.size))
        replace HV := Lib.hid (HV.out.grow hB)
        replace HV2 := Lib.hid (HV2.out.grow hB)
        replace HTM := Lib.hid (HTM.out.below hB)
        clear hB
        refine wp_region_held_drew (S := fun w' => w'.cell? ⟨w.heap.size, 0, none⟩ = some (u2) ∧ w'.cell? ⟨tb, 0, none⟩ = some (u) ∧ w'.cell? ⟨tb, 1, none⟩ = some (.slice (some ⟨sb, 0, none⟩) m m) ∧ w'.cell? ⟨tb, 2, none⟩ = some (.int .i64 (h : Int)) ∧ w'.cell? ⟨sb, r * 2, none⟩ = some (.int .u64 (key : Int)) ∧ w'.cell? ⟨sb, r * 2 + 1, none⟩ = some (.int .i64 (p : Int))) (by kernel_rfl) (by rw [hWD]; exact ⟨HA2.out.2.1, HT.out.2.1, HT.out.2.2.1, HT.out.2.2.2.1, HC.out.1, HC.out.2⟩) (fun hHeld => ?_)
        rw [hWD] at hHeld ⊢
        clear hWD
        refine wpAnyH_take (i := 0) (v := ?_) rfl (by kernel_rfl) (by kernel_rfl) (by kernel_rfl) (fun _ _ _ h => h) (Or.inl ⟨by rfl, ?_⟩) (by assumption) ?_
        rotate_left
        · (intro w hSw; (try dsimp only at hSw); go_simp; try with_reducible rfl)
        simp only [Act.put, List.getElem_toArray, List.getElem_cons_zero, List.setIfInBounds_toArray, List.set_cons_zero, List.set_cons_succ]
        refine wpAnyH_take (i := 1) (v := ?_) rfl (by kernel_rfl) (by kernel_rfl) (by kernel_rfl) (fun _ _ _ h => h) (Or.inl ⟨by rfl, ?_⟩) (by assumption) ?_
        rotate_left
        · (intro w hSw; (try dsimp only at hSw); go_simp; try with_reducible rfl)
        simp only [Act.put, List.getElem_toArray, List.getElem_cons_succ, List.getElem_cons_zero, List.setIfInBounds_toArray, List.set_cons_zero, List.set_cons_succ]
        refine wpAnyH_take (i := 2) (v := ?_) rfl (by kernel_rfl) (by kernel_rfl) (by kernel_rfl) (fun _ _ _ h => h) (Or.inl ⟨by rfl, ?_⟩) (by assumption) ?_
        rotate_left
        · (intro w hSw; (try dsimp only at hSw); go_simp; try with_reducible rfl)
        simp only [Act.put, List.getElem_toArray, List.getElem_cons_succ, List.getElem_cons_zero, List.setIfInBounds_toArray, List.set_cons_zero, List.set_cons_succ]
        refine wpAnyH_take (i := 3) (v := ?_) rfl (by kernel_rfl) (by kernel_rfl) (by kernel_rfl) (fun _ _ _ h => h) (Or.inl ⟨by rfl, ?_⟩) (by assumption) ?_
        rotate_left
        · (intro w hSw; (try dsimp only at hSw); go_simp; try with_reducible rfl)
        simp only [Act.put, List.getElem_toArray, List.getElem_cons_succ, List.getElem_cons_zero, List.setIfInBounds_toArray, List.set_cons_zero, List.set_cons_succ]
        refine wpAnyH_take (i := 4) (v := ?_) rfl (by kernel_rfl) (by kernel_rfl) (by kernel_rfl) (fun _ _ _ h => h) (Or.inl ⟨by rfl, ?_⟩) (by assumption) ?_
        rotate_left
        · (intro w hSw; (try dsimp only at hSw); go_simp; try with_reducible rfl)
        simp only [Act.put, List.getElem_toArray, List.getElem_cons_succ, List.getElem_cons_zero, List.setIfInBounds_toArray, List.set_cons_zero, List.set_cons_succ]
        refine wpAnyH_take (i := 5) (v := ?_) rfl (by kernel_rfl) (by kernel_rfl) (by kernel_rfl) (fun _ _ _ h => h) (Or.inl ⟨by rfl, ?_⟩) (by assumption) ?_
        rotate_left
        · (intro w hSw; (try dsimp only at hSw); go_simp; try with_reducible rfl)
        simp only [Act.put, List.getElem_toArray, List.getElem_cons_succ, List.getElem_cons_zero, List.setIfInBounds_toArray, List.set_cons_zero, List.set_cons_succ]
        refine wpAnyH_take (i := 6) (v := ?_) rfl (by kernel_rfl) (by kernel_rfl) (by kernel_rfl) (fun _ _ _ h => h) (Or.inl ⟨by rfl, ?_⟩) (by assumption) ?_
        rotate_left
        · (intro w hSw; (try dsimp only at hSw); go_simp; try with_reducible rfl)
        simp only [Act.put, List.getElem_toArray, List.getElem_cons_succ, List.getElem_cons_zero, List.setIfInBounds_toArray, List.set_cons_zero, List.set_cons_succ]
        refine wpAnyH_take (i := 7) (v := ?_) rfl (by kernel_rfl) (by kernel_rfl) (by kernel_rfl) (fun _ _ _ h => h) (Or.inl ⟨by rfl, ?_⟩) (by assumption) ?_
        rotate_left
        · (intro w hSw; (try dsimp only at hSw); go_simp; try with_reducible rfl)
        simp only [Act.put, List.getElem_toArray, List.getElem_cons_succ, List.getElem_cons_zero, List.setIfInBounds_toArray, List.set_cons_zero, List.set_cons_succ]
        refine wpAnyH_take (i := 8) (v := ?_) rfl (by kernel_rfl) (by kernel_rfl) (by kernel_rfl) (fun _ _ _ h => h) (Or.inl ⟨by rfl, ?_⟩) (by assumption) ?_
        rotate_left
        · (intro w hSw; (try dsimp only at hSw); go_simp; try with_reducible rfl)
        simp only [Act.put, List.getElem_toArray, List.getElem_cons_succ, List.getElem_cons_zero, List.setIfInBounds_toArray, List.set_cons_zero, List.set_cons_succ]
        refine wpAnyH_take (i := 9) (v := ?_) rfl (by kernel_rfl) (by kernel_rfl) (by kernel_rfl) (fun _ _ _ h => h) (Or.inl ⟨by rfl, ?_⟩) (by assumption) ?_
        rotate_left
        · (intro w hSw; (try dsimp only at hSw); go_simp; try with_reducible rfl)
        simp only [Act.put, List.getElem_toArray, List.getElem_cons_succ, List.getElem_cons_zero, List.setIfInBounds_toArray, List.set_cons_zero, List.set_cons_succ]
        refine wpAnyH_take (i := 10) (v := ?_) rfl (by kernel_rfl) (by kernel_rfl) (by kernel_rfl) (fun _ _ _ h => h) (Or.inl ⟨by rfl, ?_⟩) (by assumption) ?_
        rotate_left
        · (intro w hSw; (try dsimp only at hSw); go_simp; try with_reducible rfl)
        simp only [Act.put, List.getElem_toArray, List.getElem_cons_succ, List.getElem_cons_zero, List.setIfInBounds_toArray, List.set_cons_zero, List.set_cons_succ]
        refine wpAnyH_take (i := 11) (v := ?_) rfl (by kernel_rfl) (by kernel_rfl) (by kernel_rfl) (fun _ _ _ h => h) (Or.inl ⟨by rfl, ?_⟩) (by assumption) ?_
        rotate_left
        · (intro w hSw; (try dsimp only at hSw); go_simp; try with_reducible rfl)
        simp only [Act.put, List.getElem_toArray, List.getElem_cons_succ, List.getElem_cons_zero, List.setIfInBounds_toArray, List.set_cons_zero, List.set_cons_succ]
        refine wpAnyH_take (i := 12) (v := ?_) rfl (by kernel_rfl) (by kernel_rfl) (by kernel_rfl) (fun _ _ _ h => h) (Or.inl ⟨by rfl, ?_⟩) (by assumption) ?_
        rotate_left
        · (intro w hSw; (try dsimp only at hSw); go_simp; try with_reducible rfl)
        simp only [Act.put, List.getElem_toArray, List.getElem_cons_succ, List.getElem_cons_zero, List.setIfInBounds_toArray, List.set_cons_zero, List.set_cons_succ]
        refine wpAnyH_take (i := 13) (v := ?_) rfl (by kernel_rfl) (by kernel_rfl) (by kernel_rfl) (fun _ _ _ h => h) (Or.inl ⟨by rfl, ?_⟩) (by assumption) ?_
        rotate_left
        · (intro w hSw; (try dsimp only at hSw); go_simp; try with_reducible rfl)
        simp only [Act.put, List.getElem_toArray, List.getElem_cons_succ, List.getElem_cons_zero, List.setIfInBounds_toArray, List.set_cons_zero, List.set_cons_succ]
        refine wpAnyH_take (i := 14) (v := ?_) rfl (by kernel_rfl) (by kernel_rfl) (by kernel_rfl) (fun _ _ _ h => h) (Or.inl ⟨by rfl, ?_⟩) (by assumption) ?_
        rotate_left
        · (intro w hSw; (try dsimp only at hSw); go_simp; try with_reducible rfl)
        simp only [Act.put, List.getElem_toArray, List.getElem_cons_succ, List.getElem_cons_zero, List.setIfInBounds_toArray, List.set_cons_zero, List.set_cons_succ]
        refine wpAnyH_take (i := 15) (v := ?_) rfl (by kernel_rfl) (by kernel_rfl) (by kernel_rfl) (fun _ _ _ h => h) (Or.inl ⟨by rfl, ?_⟩) (by assumption) ?_
        rotate_left
        · (intro w hSw; (try dsimp only at hSw); go_simp; try with_reducible rfl)
        simp only [Act.put, List.getElem_toArray, List.getElem_cons_succ, List.getElem_cons_zero, List.setIfInBounds_toArray, List.set_cons_zero, List.set_cons_succ]
        refine wpAnyH_take (i := 16) (v := ?_) rfl (by kernel_rfl) (by kernel_rfl) (by kernel_rfl) (fun _ _ _ h => h) (Or.inl ⟨by rfl, ?_⟩) (by assumption) ?_
        rotate_left
        · (intro w hSw; (try dsimp only at hSw); go_simp; try with_reducible rfl)
        simp only [Act.put, List.getElem_toArray, List.getElem_cons_succ, List.getElem_cons_zero, List.setIfInBounds_toArray, List.set_cons_zero, List.set_cons_succ]
        refine wpAnyH_take (i := 17) (v := ?_) rfl (by kernel_rfl) (by kernel_rfl) (by kernel_rfl) (fun _ _ _ h => h) (Or.inl ⟨by rfl, ?_⟩) (by assumption) ?_
        rotate_left
        · (intro w hSw; (try dsimp only at hSw); go_simp; try with_reducible rfl)
        simp only [Act.put, List.getElem_toArray, List.getElem_cons_succ, List.getElem_cons_zero, List.setIfInBounds_toArray, List.set_cons_zero, List.set_cons_succ]
        refine wpAnyH_take (i := 18) (v := ?_) rfl (by kernel_rfl) (by kernel_rfl) (by kernel_rfl) (fun _ _ _ h => h) (Or.inl ⟨by rfl, ?_⟩) (by assumption) ?_
        rotate_left
        · (intro w hSw; (try dsimp only at hSw); go_simp; try with_reducible rfl)
        simp only [Act.put, List.getElem_toArray, List.getElem_cons_succ, List.getElem_cons_zero, List.setIfInBounds_toArray, List.set_cons_zero, List.set_cons_succ]
        refine wpAnyH_take (i := 19) (v := ?_) rfl (by kernel_rfl) (by kernel_rfl) (by kernel_rfl) (fun _ _ _ h => h) (Or.inl ⟨by rfl, ?_⟩) (by assumption) ?_
        rotate_left
        · (intro w hSw; (try dsimp only at hSw); go_simp; try with_reducible rfl)
        simp only [Act.put, List.getElem_toArray, List.getElem_cons_succ, List.getElem_cons_zero, List.setIfInBounds_toArray, List.set_cons_zero, List.set_cons_succ]
        refine wpAnyH_take (i := 20) (v := ?_) rfl (by kernel_rfl) (by kernel_rfl) (by kernel_rfl) (fun _ _ _ h => h) (Or.inl ⟨by rfl, ?_⟩) (by assumption) ?_
        rotate_left
        · (intro w hSw; (try dsimp only at hSw); go_simp; try with_reducible rfl)
        simp only [Act.put, List.getElem_toArray, List.getElem_cons_succ, List.getElem_cons_zero, List.setIfInBounds_toArray, List.set_cons_zero, List.set_cons_succ]
        refine wpAnyH_ready (rs := [21]) (by kernel_rfl) (by simp) ?_
        refine AllReadyH.cons (o := _) rfl (fun K hK => ?_) AllReadyH.nil
        clear hHeld
        go_simp
        refine (hholds_yes key p k _ HTM.out ⟨HK.out.1.1, HK.out.1.2.1, HK.out.1.2.2, HPL.out⟩ ⟨HK.out.2.1.1, HK.out.2.1.2.1, HK.out.2.1.2.2, HK.out.2.2⟩ HV.out HV2.out).mono ?_
        rintro e W12 ⟨rfl, hB⟩
        replace HA2 := Lib.hid (HA2.out.below hB)
        replace HT := Lib.hid (HT.out.below hB)
        replace HC := Lib.hid (And.intro (keep_below hB _ _ HC.out.1) (keep_below hB _ _ HC.out.2))
        replace HB := Lib.hid (HB.out.trans (hB.mono HB.out.size))
        replace HBR := Lib.hid (HBR.out.trans (hB.mono HBR.out.size))
        replace HV := Lib.hid (HV.out.grow hB)
        replace HV2 := Lib.hid (HV2.out.grow hB)
        replace HTM := Lib.hid (HTM.out.below hB)
        clear hB
        rw [show iq (itA (plA 39) V p) (itA (plA 39) V2 k) = true from iq_yes (by have := HPX.out; rw [← HX.out] at this; exact this)]
        try go_simp
        refine hK.out _ _ ?_ (fun hHeld => ?_)
        · exact ⟨HA2.out.2.1, HT.out.2.1, HT.out.2.2.1, HT.out.2.2.2.1, HC.out.1, HC.out.2⟩
        clear hK K
        refine wpAnyH_take (i := 22) (v := ?_) rfl (by kernel_rfl) (by kernel_rfl) (by kernel_rfl) (fun _ _ _ h => h) (Or.inl ⟨by rfl, ?_⟩) (by assumption) ?_
        rotate_left
        · (intro w hSw; (try dsimp only at hSw); go_simp; try with_reducible rfl)
        simp only [Act.put, List.getElem_toArray, List.getElem_cons_succ, List.getElem_cons_zero, List.setIfInBounds_toArray, List.set_cons_zero, List.set_cons_succ]
        refine wpAnyH_take (i := 23) (v := ?_) rfl (by kernel_rfl) (by kernel_rfl) (by kernel_rfl) (fun _ _ _ h => h) (Or.inl ⟨by rfl, ?_⟩) (by assumption) ?_
        rotate_left
        · (intro w hSw; (try dsimp only at hSw); go_simp; try with_reducible rfl)
        simp only [Act.put, List.getElem_toArray, List.getElem_cons_succ, List.getElem_cons_zero, List.setIfInBounds_toArray, List.set_cons_zero, List.set_cons_succ]
        refine wpAnyH_done (by kernel_rfl) ?_ _
        clear hHeld
        go_wp2_with fail
        go_ret
        exact ⟨r, rfl, ⟨by rw [HM.out]; exact HRM.out, Or.inr ⟨p, HP.out, HSL.out, HPX.out⟩⟩, HB.out⟩
      · have HPX := Lib.hid hpx
        have HMS := Lib.hid (show Miss (itH V) P S x ((key + d) % m) by
          rw [← HR.out]
          refine ⟨by rw [HSL.out]; exact HNE.out, fun q hq e => ?_⟩
          rw [HSL.out] at e
          have : (p : Int) = (q : Int) := e
          have : p = q := by omega
          rw [← this]; exact HPX.out)
        have HMD := Lib.hid (show ∀ e, e < d + 1 → Miss (itH V) P S x ((key + e) % m) by
          intro e he
          by_cases h0 : e = d
          · rw [h0]; exact HMS.out
          · exact HMI.out e (by omega))
        have HD1 := Lib.hid (show d + 1 < m by
          have := HTT.out.bound HLP.out (x := x) (k := key) (d := d + 1) (by rw [HM.out]; exact HMD.out)
          rw [HM.out] at this; exact this)
        clear hpx
        by_cases hke : kH (itH V p) = key
        · rw [hke] at HC
          clear hke
          have HIQ := Lib.hid (show iq (itA (plA 39) V p) (itA (plA 39) V2 k) = false from iq_no (by have := HPX.out; rw [← HX.out] at this; exact this))
          have cHA20 := HA2.out.2.1
          have cHT0 := HT.out.2.1
          have cHT1 := HT.out.2.2.1
          have cHT2 := HT.out.2.2.2.1
          have cHC0 := HC.out.1
          have cHC1 := HC.out.2
          go_wp2_with fail
          obtain ⟨W11, hWD⟩ : ∃ xw9, wr.drew = xw9 := ⟨_, rfl⟩
          have hB : Below wr.heap.size wr W11 := by rw [← hWD]; exact Below.drewN' (Below.refl _ _) 1
          clear cHA20 cHT0 cHT1 cHT2 cHC0 cHC1
          replace HA2 := Lib.hid (HA2.out.below hB)
          replace HT := Lib.hid (HT.out.below hB)
          replace HC := Lib.hid (And.intro (keep_below hB _ _ HC.out.1) (keep_below hB _ _ HC.out.2))
          replace HB := Lib.hid (HB.out.trans (hB.mono HB.out.size))
          replace HBR := Lib.hid (HBR.out.trans (hB.mono HBR.out.size))
          replace HV := Lib.hid (HV.out.grow hB)
          replace HV2 := Lib.hid (HV2.out.grow hB)
          replace HTM := Lib.hid (HTM.out.below hB)
          clear hB
          refine wp_region_held_drew (S := fun w' => w'.cell? ⟨w.heap.size, 0, none⟩ = some (u2) ∧ w'.cell? ⟨tb, 0, none⟩ = some (u) ∧ w'.cell? ⟨tb, 1, none⟩ = some (.slice (some ⟨sb, 0, none⟩) m m) ∧ w'.cell? ⟨tb, 2, none⟩ = some (.int .i64 (h : Int)) ∧ w'.cell? ⟨sb, r * 2, none⟩ = some (.int .u64 (key : Int)) ∧ w'.cell? ⟨sb, r * 2 + 1, none⟩ = some (.int .i64 (p : Int))) (by kernel_rfl) (by rw [hWD]; exact ⟨HA2.out.2.1, HT.out.2.1, HT.out.2.2.1, HT.out.2.2.2.1, HC.out.1, HC.out.2⟩) (fun hHeld => ?_)
          rw [hWD] at hHeld ⊢
          clear hWD
          refine wpAnyH_take (i := 0) (v := ?_) rfl (by kernel_rfl) (by kernel_rfl) (by kernel_rfl) (fun _ _ _ h => h) (Or.inl ⟨by rfl, ?_⟩) (by assumption) ?_
          rotate_left
          · (intro w hSw; (try dsimp only at hSw); go_simp; try with_reducible rfl)
          simp only [Act.put, List.getElem_toArray, List.getElem_cons_zero, List.setIfInBounds_toArray, List.set_cons_zero, List.set_cons_succ]
          refine wpAnyH_take (i := 1) (v := ?_) rfl (by kernel_rfl) (by kernel_rfl) (by kernel_rfl) (fun _ _ _ h => h) (Or.inl ⟨by rfl, ?_⟩) (by assumption) ?_
          rotate_left
          · (intro w hSw; (try dsimp only at hSw); go_simp; try with_reducible rfl)
          simp only [Act.put, List.getElem_toArray, List.getElem_cons_succ, List.getElem_cons_zero, List.setIfInBounds_toArray, List.set_cons_zero, List.set_cons_succ]
          refine wpAnyH_take (i := 2) (v := ?_) rfl (by kernel_rfl) (by kernel_rfl) (by kernel_rfl) (fun _ _ _ h => h) (Or.inl ⟨by rfl, ?_⟩) (by assumption) ?_
          rotate_left
          · (intro w hSw; (try dsimp only at hSw); go_simp; try with_reducible rfl)
          simp only [Act.put, List.getElem_toArray, List.getElem_cons_succ, List.getElem_cons_zero, List.setIfInBounds_toArray, List.set_cons_zero, List.set_cons_succ]
          refine wpAnyH_take (i := 3) (v := ?_) rfl (by kernel_rfl) (by kernel_rfl) (by kernel_rfl) (fun _ _ _ h => h) (Or.inl ⟨by rfl, ?_⟩) (by assumption) ?_
          rotate_left
          · (intro w hSw; (try dsimp only at hSw); go_simp; try with_reducible rfl)
          simp only [Act.put, List.getElem_toArray, List.getElem_cons_succ, List.getElem_cons_zero, List.setIfInBounds_toArray, List.set_cons_zero, List.set_cons_succ]
          refine wpAnyH_take (i := 4) (v := ?_) rfl (by kernel_rfl) (by kernel_rfl) (by kernel_rfl) (fun _ _ _ h => h) (Or.inl ⟨by rfl, ?_⟩) (by assumption) ?_
          rotate_left
          · (intro w hSw; (try dsimp only at hSw); go_simp; try with_reducible rfl)
          simp only [Act.put, List.getElem_toArray, List.getElem_cons_succ, List.getElem_cons_zero, List.setIfInBounds_toArray, List.set_cons_zero, List.set_cons_succ]
          refine wpAnyH_take (i := 5) (v := ?_) rfl (by kernel_rfl) (by kernel_rfl) (by kernel_rfl) (fun _ _ _ h => h) (Or.inl ⟨by rfl, ?_⟩) (by assumption) ?_
          rotate_left
          · (intro w hSw; (try dsimp only at hSw); go_simp; try with_reducible rfl)
          simp only [Act.put, List.getElem_toArray, List.getElem_cons_succ, List.getElem_cons_zero, List.setIfInBounds_toArray, List.set_cons_zero, List.set_cons_succ]
          refine wpAnyH_take (i := 6) (v := ?_) rfl (by kernel_rfl) (by kernel_rfl) (by kernel_rfl) (fun _ _ _ h => h) (Or.inl ⟨by rfl, ?_⟩) (by assumption) ?_
          rotate_left
          · (intro w hSw; (try dsimp only at hSw); go_simp; try with_reducible rfl)
          simp only [Act.put, List.getElem_toArray, List.getElem_cons_succ, List.getElem_cons_zero, List.setIfInBounds_toArray, List.set_cons_zero, List.set_cons_succ]
          refine wpAnyH_take (i := 7) (v := ?_) rfl (by kernel_rfl) (by kernel_rfl) (by kernel_rfl) (fun _ _ _ h => h) (Or.inl ⟨by rfl, ?_⟩) (by assumption) ?_
          rotate_left
          · (intro w hSw; (try dsimp only at hSw); go_simp; try with_reducible rfl)
          simp only [Act.put, List.getElem_toArray, List.getElem_cons_succ, List.getElem_cons_zero, List.setIfInBounds_toArray, List.set_cons_zero, List.set_cons_succ]
          refine wpAnyH_take (i := 8) (v := ?_) rfl (by kernel_rfl) (by kernel_rfl) (by kernel_rfl) (fun _ _ _ h => h) (Or.inl ⟨by rfl, ?_⟩) (by assumption) ?_
          rotate_left
          · (intro w hSw; (try dsimp only at hSw); go_simp; try with_reducible rfl)
          simp only [Act.put, List.getElem_toArray, List.getElem_cons_succ, List.getElem_cons_zero, List.setIfInBounds_toArray, List.set_cons_zero, List.set_cons_succ]
          refine wpAnyH_take (i := 9) (v := ?_) rfl (by kernel_rfl) (by kernel_rfl) (by kernel_rfl) (fun _ _ _ h => h) (Or.inl ⟨by rfl, ?_⟩) (by assumption) ?_
          rotate_left
          · (intro w hSw; (try dsimp only at hSw); go_simp; try with_reducible rfl)
          simp only [Act.put, List.getElem_toArray, List.getElem_cons_succ, List.getElem_cons_zero, List.setIfInBounds_toArray, List.set_cons_zero, List.set_cons_succ]
          refine wpAnyH_take (i := 10) (v := ?_) rfl (by kernel_rfl) (by kernel_rfl) (by kernel_rfl) (fun _ _ _ h => h) (Or.inl ⟨by rfl, ?_⟩) (by assumption) ?_
          rotate_left
          · (intro w hSw; (try dsimp only at hSw); go_simp; try with_reducible rfl)
          simp only [Act.put, List.getElem_toArray, List.getElem_cons_succ, List.getElem_cons_zero, List.setIfInBounds_toArray, List.set_cons_zero, List.set_cons_succ]
          refine wpAnyH_take (i := 11) (v := ?_) rfl (by kernel_rfl) (by kernel_rfl) (by kernel_rfl) (fun _ _ _ h => h) (Or.inl ⟨by rfl, ?_⟩) (by assumption) ?_
          rotate_left
          · (intro w hSw; (try dsimp only at hSw); go_simp; try with_reducible rfl)
          simp only [Act.put, List.getElem_toArray, List.getElem_cons_succ, List.getElem_cons_zero, List.setIfInBounds_toArray, List.set_cons_zero, List.set_cons_succ]
          refine wpAnyH_take (i := 12) (v := ?_) rfl (by kernel_rfl) (by kernel_rfl) (by kernel_rfl) (fun _ _ _ h => h) (Or.inl ⟨by rfl, ?_⟩) (by assumption) ?_
          rotate_left
          · (intro w hSw; (try dsimp only at hSw); go_simp; try with_reducible rfl)
          simp only [Act.put, List.getElem_toArray, List.getElem_cons_succ, List.getElem_cons_zero, List.setIfInBounds_toArray, List.set_cons_zero, List.set_cons_succ]
          refine wpAnyH_take (i := 13) (v := ?_) rfl (by kernel_rfl) (by kernel_rfl) (by kernel_rfl) (fun _ _ _ h => h) (Or.inl ⟨by rfl, ?_⟩) (by assumption) ?_
          rotate_left
          · (intro w hSw; (try dsimp only at hSw); go_simp; try with_reducible rfl)
          simp only [Act.put, List.getElem_toArray, List.getElem_cons_succ, List.getElem_cons_zero, List.setIfInBounds_toArray, List.set_cons_zero, List.set_cons_succ]
          refine wpAnyH_take (i := 14) (v := ?_) rfl (by kernel_rfl) (by kernel_rfl) (by kernel_rfl) (fun _ _ _ h => h) (Or.inl ⟨by rfl, ?_⟩) (by assumption) ?_
          rotate_left
          · (intro w hSw; (try dsimp only at hSw); go_simp; try with_reducible rfl)
          simp only [Act.put, List.getElem_toArray, List.getElem_cons_succ, List.getElem_cons_zero, List.setIfInBounds_toArray, List.set_cons_zero, List.set_cons_succ]
          refine wpAnyH_take (i := 15) (v := ?_) rfl (by kernel_rfl) (by kernel_rfl) (by kernel_rfl) (fun _ _ _ h => h) (Or.inl ⟨by rfl, ?_⟩) (by assumption) ?_
          rotate_left
          · (intro w hSw; (try dsimp only at hSw); go_simp; try with_reducible rfl)
          simp only [Act.put, List.getElem_toArray, List.getElem_cons_succ, List.getElem_cons_zero, List.setIfInBounds_toArray, List.set_cons_zero, List.set_cons_succ]
          refine wpAnyH_take (i := 16) (v := ?_) rfl (by kernel_rfl) (by kernel_rfl) (by kernel_rfl) (fun _ _ _ h => h) (Or.inl ⟨by rfl, ?_⟩) (by assumption) ?_
          rotate_left
          · (intro w hSw; (try dsimp only at hSw); go_simp; try with_reducible rfl)
          simp only [Act.put, List.getElem_toArray, List.getElem_cons_succ, List.getElem_cons_zero, List.setIfInBounds_toArray, List.set_cons_zero, List.set_cons_succ]
          refine wpAnyH_take (i := 17) (v := ?_) rfl (by kernel_rfl) (by kernel_rfl) (by kernel_rfl) (fun _ _ _ h => h) (Or.inl ⟨by rfl, ?_⟩) (by assumption) ?_
          rotate_left
          · (intro w hSw; (try dsimp only at hSw); go_simp; try with_reducible rfl)
          simp only [Act.put, List.getElem_toArray, List.getElem_cons_succ, List.getElem_cons_zero, List.setIfInBounds_toArray, List.set_cons_zero, List.set_cons_succ]
          refine wpAnyH_take (i := 18) (v := ?_) rfl (by kernel_rfl) (by kernel_rfl) (by kernel_rfl) (fun _ _ _ h => h) (Or.inl ⟨by rfl, ?_⟩) (by assumption) ?_
          rotate_left
          · (intro w hSw; (try dsimp only at hSw); go_simp; try with_reducible rfl)
          simp only [Act.put, List.getElem_toArray, List.getElem_cons_succ, List.getElem_cons_zero, List.setIfInBounds_toArray, List.set_cons_zero, List.set_cons_succ]
          refine wpAnyH_take (i := 19) (v := ?_) rfl (by kernel_rfl) (by kernel_rfl) (by kernel_rfl) (fun _ _ _ h => h) (Or.inl ⟨by rfl, ?_⟩) (by assumption) ?_
          rotate_left
          · (intro w hSw; (try dsimp only at hSw); go_simp; try with_reducible rfl)
          simp only [Act.put, List.getElem_toArray, List.getElem_cons_succ, List.getElem_cons_zero, List.setIfInBounds_toArray, List.set_cons_zero, List.set_cons_succ]
          refine wpAnyH_take (i := 20) (v := ?_) rfl (by kernel_rfl) (by kernel_rfl) (by kernel_rfl) (fun _ _ _ h => h) (Or.inl ⟨by rfl, ?_⟩) (by assumption) ?_
          rotate_left
          · (intro w hSw; (try dsimp only at hSw); go_simp; try with_reducible rfl)
          simp only [Act.put, List.getElem_toArray, List.getElem_cons_succ, List.getElem_cons_zero, List.setIfInBounds_toArray, List.set_cons_zero, List.set_cons_succ]
          refine wpAnyH_ready (rs := [21]) (by kernel_rfl) (by simp) ?_
          refine AllReadyH.cons (o := _) rfl (fun K hK => ?_) AllReadyH.nil
          clear hHeld
          go_simp
          refine (hholds_yes key p k _ HTM.out ⟨HK.out.1.1, HK.out.1.2.1, HK.out.1.2.2, HPL.out⟩ ⟨HK.out.2.1.1, HK.out.2.1.2.1, HK.out.2.1.2.2, HK.out.2.2⟩ HV.out HV2.out).mono ?_
          rintro e W12 ⟨rfl, hB⟩
          replace HA2 := Lib.hid (HA2.out.below hB)
          replace HT := Lib.hid (HT.out.below hB)
          replace HC := Lib.hid (And.intro (keep_below hB _ _ HC.out.1) (keep_below hB _ _ HC.out.2))
          replace HB := Lib.hid (HB.out.trans (hB.mono HB.out.size))
          replace HBR := Lib.hid (HBR.out.trans (hB.mono HBR.out.size))
          replace HV := Lib.hid (HV.out.grow hB)
          replace HV2 := Lib.hid (HV2.out.grow hB)
          replace HTM := Lib.hid (HTM.out.below hB)
          clear hB
          rw [HIQ.out]
          try go_simp
          refine hK.out _ _ ?_ (fun hHeld => ?_)
          · exact ⟨HA2.out.2.1, HT.out.2.1, HT.out.2.2.1, HT.out.2.2.2.1, HC.out.1, HC.out.2⟩
          clear hK K
          refine wpAnyH_take (i := 22) (v := ?_) rfl (by kernel_rfl) (by kernel_rfl) (by kernel_rfl) (fun _ _ _ h => h) (Or.inl ⟨by rfl, ?_⟩) (by assumption) ?_
          rotate_left
          · (intro w hSw; (try dsimp only at hSw); go_simp; try with_reducible rfl)
          simp only [Act.put, List.getElem_toArray, List.getElem_cons_succ, List.getElem_cons_zero, List.setIfInBounds_toArray, List.set_cons_zero, List.set_cons_succ]
          refine wpAnyH_take (i := 23) (v := ?_) rfl (by kernel_rfl) (by kernel_rfl) (by kernel_rfl) (fun _ _ _ h => h) (Or.inl ⟨by rfl, ?_⟩) (by assumption) ?_
          rotate_left
          · (intro w hSw; (try dsimp only at hSw); go_simp; try with_reducible rfl)
          simp only [Act.put, List.getElem_toArray, List.getElem_cons_succ, List.getElem_cons_zero, List.setIfInBounds_toArray, List.set_cons_zero, List.set_cons_succ]
          refine wpAnyH_done (by kernel_rfl) ?_ _
          clear hHeld
          go_wp2_with fail
          refine (hnext_calls r _ HTM.out HMS2.out HMX.out (by rw [HM.out]; exact HRM.out)).mono ?_
          rintro e W40 ⟨rfl, rfl⟩
          rw [HM.out]
          go_wp2_with fail
          go_roundw
          case rel => exact ⟨d + 1, (r + 1) % m, rfl, HD1.out, by rw [HR.out, Nat.mod_add_mod]; rfl, HMD.out, HBR.out⟩
          case measure =>
            have e1 := back m key d HD.out
            have e2 := back m key (d + 1) HD1.out
            have h1 := HD1.out
            simp only [intOf]
            rw [show ((r : Int) + 1) % (m : Int) = (((r + 1) % m : Nat) : Int) by rw [Int.natCast_emod]; rfl, Int.toNat_natCast, show (r + 1) % m = (key + (d + 1)) % m by rw [HR.out, Nat.mod_add_mod]; rfl, show ((r : Nat) : Int).toNat = (key + d) % m by rw [Int.toNat_natCast, HR.out], e1, e2]
            omega
        · obtain ⟨key2, hk2⟩ : ∃ key2, kH (itH V p) = key2 := ⟨_, rfl⟩
          have HK2 := Lib.hid hke
          rw [hk2] at HK2 HC
          clear hk2 hke
          have cHA20 := HA2.out.2.1
          have cHT0 := HT.out.2.1
          have cHT1 := HT.out.2.2.1
          have cHT2 := HT.out.2.2.2.1
          have cHC0 := HC.out.1
          have cHC1 := HC.out.2
          go_wp2_with fail
          obtain ⟨W11, hWD⟩ : ∃ xw9, wr.drew = xw9 := ⟨_, rfl⟩
          have hB : Below wr.heap.size wr W11 := by rw [← hWD]; exact Below.drewN' (Below.refl _ _) 1
          clear cHA20 cHT0 cHT1 cHT2 cHC0 cHC1
          replace HA2 := Lib.hid (HA2.out.below hB)
          replace HT := Lib.hid (HT.out.below hB)
          replace HC := Lib.hid (And.intro (keep_below hB _ _ HC.out.1) (keep_below hB _ _ HC.out.2))
          replace HB := Lib.hid (HB.out.trans (hB.mono HB.out.size))
          replace HBR := Lib.hid (HBR.out.trans (hB.mono HBR.out.size))
          replace HV := Lib.hid (HV.out.grow hB)
          replace HV2 := Lib.hid (HV2.out.grow hB)
          replace HTM := Lib.hid (HTM.out.below hB)
          clear hB
          refine wp_region_held_drew (S := fun w' => w'.cell? ⟨w.heap.size, 0, none⟩ = some (u2) ∧ w'.cell? ⟨tb, 0, none⟩ = some (u) ∧ w'.cell? ⟨tb, 1, none⟩ = some (.slice (some ⟨sb, 0, none⟩) m m) ∧ w'.cell? ⟨tb, 2, none⟩ = some (.int .i64 (h : Int)) ∧ w'.cell? ⟨sb, r * 2, none⟩ = some (.int .u64 (key2 : Int)) ∧ w'.cell? ⟨sb, r * 2 + 1, none⟩ = some (.int .i64 (p : Int))) (by kernel_rfl) (by rw [hWD]; exact ⟨HA2.out.2.1, HT.out.2.1, HT.out.2.2.1, HT.out.2.2.2.1, HC.out.1, HC.out.2⟩) (fun hHeld => ?_)
          rw [hWD] at hHeld ⊢
          clear hWD
          refine wpAnyH_take (i := 0) (v := ?_) rfl (by kernel_rfl) (by kernel_rfl) (by kernel_rfl) (fun _ _ _ h => h) (Or.inl ⟨by rfl, ?_⟩) (by assumption) ?_
          rotate_left
          · (intro w hSw; (try dsimp only at hSw); go_simp; try with_reducible rfl)
          simp only [Act.put, List.getElem_toArray, List.getElem_cons_zero, List.setIfInBounds_toArray, List.set_cons_zero, List.set_cons_succ]
          refine wpAnyH_take (i := 1) (v := ?_) rfl (by kernel_rfl) (by kernel_rfl) (by kernel_rfl) (fun _ _ _ h => h) (Or.inl ⟨by rfl, ?_⟩) (by assumption) ?_
          rotate_left
          · (intro w hSw; (try dsimp only at hSw); go_simp; try with_reducible rfl)
          simp only [Act.put, List.getElem_toArray, List.getElem_cons_succ, List.getElem_cons_zero, List.setIfInBounds_toArray, List.set_cons_zero, List.set_cons_succ]
          refine wpAnyH_take (i := 2) (v := ?_) rfl (by kernel_rfl) (by kernel_rfl) (by kernel_rfl) (fun _ _ _ h => h) (Or.inl ⟨by rfl, ?_⟩) (by assumption) ?_
          rotate_left
          · (intro w hSw; (try dsimp only at hSw); go_simp; try with_reducible rfl)
          simp only [Act.put, List.getElem_toArray, List.getElem_cons_succ, List.getElem_cons_zero, List.setIfInBounds_toArray, List.set_cons_zero, List.set_cons_succ]
          refine wpAnyH_take (i := 3) (v := ?_) rfl (by kernel_rfl) (by kernel_rfl) (by kernel_rfl) (fun _ _ _ h => h) (Or.inl ⟨by rfl, ?_⟩) (by assumption) ?_
          rotate_left
          · (intro w hSw; (try dsimp only at hSw); go_simp; try with_reducible rfl)
          simp only [Act.put, List.getElem_toArray, List.getElem_cons_succ, List.getElem_cons_zero, List.setIfInBounds_toArray, List.set_cons_zero, List.set_cons_succ]
          refine wpAnyH_take (i := 4) (v := ?_) rfl (by kernel_rfl) (by kernel_rfl) (by kernel_rfl) (fun _ _ _ h => h) (Or.inl ⟨by rfl, ?_⟩) (by assumption) ?_
          rotate_left
          · (intro w hSw; (try dsimp only at hSw); go_simp; try with_reducible rfl)
          simp only [Act.put, List.getElem_toArray, List.getElem_cons_succ, List.getElem_cons_zero, List.setIfInBounds_toArray, List.set_cons_zero, List.set_cons_succ]
          refine wpAnyH_take (i := 5) (v := ?_) rfl (by kernel_rfl) (by kernel_rfl) (by kernel_rfl) (fun _ _ _ h => h) (Or.inl ⟨by rfl, ?_⟩) (by assumption) ?_
          rotate_left
          · (intro w hSw; (try dsimp only at hSw); go_simp; try with_reducible rfl)
          simp only [Act.put, List.getElem_toArray, List.getElem_cons_succ, List.getElem_cons_zero, List.setIfInBounds_toArray, List.set_cons_zero, List.set_cons_succ]
          refine wpAnyH_take (i := 6) (v := ?_) rfl (by kernel_rfl) (by kernel_rfl) (by kernel_rfl) (fun _ _ _ h => h) (Or.inl ⟨by rfl, ?_⟩) (by assumption) ?_
          rotate_left
          · (intro w hSw; (try dsimp only at hSw); go_simp; try with_reducible rfl)
          simp only [Act.put, List.getElem_toArray, List.getElem_cons_succ, List.getElem_cons_zero, List.setIfInBounds_toArray, List.set_cons_zero, List.set_cons_succ]
          refine wpAnyH_take (i := 7) (v := ?_) rfl (by kernel_rfl) (by kernel_rfl) (by kernel_rfl) (fun _ _ _ h => h) (Or.inl ⟨by rfl, ?_⟩) (by assumption) ?_
          rotate_left
          · (intro w hSw; (try dsimp only at hSw); go_simp; try with_reducible rfl)
          simp only [Act.put, List.getElem_toArray, List.getElem_cons_succ, List.getElem_cons_zero, List.setIfInBounds_toArray, List.set_cons_zero, List.set_cons_succ]
          refine wpAnyH_take (i := 8) (v := ?_) rfl (by kernel_rfl) (by kernel_rfl) (by kernel_rfl) (fun _ _ _ h => h) (Or.inl ⟨by rfl, ?_⟩) (by assumption) ?_
          rotate_left
          · (intro w hSw; (try dsimp only at hSw); go_simp; try with_reducible rfl)
          simp only [Act.put, List.getElem_toArray, List.getElem_cons_succ, List.getElem_cons_zero, List.setIfInBounds_toArray, List.set_cons_zero, List.set_cons_succ]
          refine wpAnyH_take (i := 9) (v := ?_) rfl (by kernel_rfl) (by kernel_rfl) (by kernel_rfl) (fun _ _ _ h => h) (Or.inl ⟨by rfl, ?_⟩) (by assumption) ?_
          rotate_left
          · (intro w hSw; (try dsimp only at hSw); go_simp; try with_reducible rfl)
          simp only [Act.put, List.getElem_toArray, List.getElem_cons_succ, List.getElem_cons_zero, List.setIfInBounds_toArray, List.set_cons_zero, List.set_cons_succ]
          refine wpAnyH_take (i := 10) (v := ?_) rfl (by kernel_rfl) (by kernel_rfl) (by kernel_rfl) (fun _ _ _ h => h) (Or.inl ⟨by rfl, ?_⟩) (by assumption) ?_
          rotate_left
          · (intro w hSw; (try dsimp only at hSw); go_simp; try with_reducible rfl)
          simp only [Act.put, List.getElem_toArray, List.getElem_cons_succ, List.getElem_cons_zero, List.setIfInBounds_toArray, List.set_cons_zero, List.set_cons_succ]
          refine wpAnyH_take (i := 11) (v := ?_) rfl (by kernel_rfl) (by kernel_rfl) (by kernel_rfl) (fun _ _ _ h => h) (Or.inl ⟨by rfl, ?_⟩) (by assumption) ?_
          rotate_left
          · (intro w hSw; (try dsimp only at hSw); go_simp; try with_reducible rfl)
          simp only [Act.put, List.getElem_toArray, List.getElem_cons_succ, List.getElem_cons_zero, List.setIfInBounds_toArray, List.set_cons_zero, List.set_cons_succ]
          refine wpAnyH_take (i := 12) (v := ?_) rfl (by kernel_rfl) (by kernel_rfl) (by kernel_rfl) (fun _ _ _ h => h) (Or.inl ⟨by rfl, ?_⟩) (by assumption) ?_
          rotate_left
          · (intro w hSw; (try dsimp only at hSw); go_simp; try with_reducible rfl)
          simp only [Act.put, List.getElem_toArray, List.getElem_cons_succ, List.getElem_cons_zero, List.setIfInBounds_toArray, List.set_cons_zero, List.set_cons_succ]
          refine wpAnyH_take (i := 13) (v := ?_) rfl (by kernel_rfl) (by kernel_rfl) (by kernel_rfl) (fun _ _ _ h => h) (Or.inl ⟨by rfl, ?_⟩) (by assumption) ?_
          rotate_left
          · (intro w hSw; (try dsimp only at hSw); go_simp; try with_reducible rfl)
          simp only [Act.put, List.getElem_toArray, List.getElem_cons_succ, List.getElem_cons_zero, List.setIfInBounds_toArray, List.set_cons_zero, List.set_cons_succ]
          refine wpAnyH_take (i := 14) (v := ?_) rfl (by kernel_rfl) (by kernel_rfl) (by kernel_rfl) (fun _ _ _ h => h) (Or.inl ⟨by rfl, ?_⟩) (by assumption) ?_
          rotate_left
          · (intro w hSw; (try dsimp only at hSw); go_simp; try with_reducible rfl)
          simp only [Act.put, List.getElem_toArray, List.getElem_cons_succ, List.getElem_cons_zero, List.setIfInBounds_toArray, List.set_cons_zero, List.set_cons_succ]
          refine wpAnyH_take (i := 15) (v := ?_) rfl (by kernel_rfl) (by kernel_rfl) (by kernel_rfl) (fun _ _ _ h => h) (Or.inl ⟨by rfl, ?_⟩) (by assumption) ?_
          rotate_left
          · (intro w hSw; (try dsimp only at hSw); go_simp; try with_reducible rfl)
          simp only [Act.put, List.getElem_toArray, List.getElem_cons_succ, List.getElem_cons_zero, List.setIfInBounds_toArray, List.set_cons_zero, List.set_cons_succ]
          refine wpAnyH_take (i := 16) (v := ?_) rfl (by kernel_rfl) (by kernel_rfl) (by kernel_rfl) (fun _ _ _ h => h) (Or.inl ⟨by rfl, ?_⟩) (by assumption) ?_
          rotate_left
          · (intro w hSw; (try dsimp only at hSw); go_simp; try with_reducible rfl)
          simp only [Act.put, List.getElem_toArray, List.getElem_cons_succ, List.getElem_cons_zero, List.setIfInBounds_toArray, List.set_cons_zero, List.set_cons_succ]
          refine wpAnyH_take (i := 17) (v := ?_) rfl (by kernel_rfl) (by kernel_rfl) (by kernel_rfl) (fun _ _ _ h => h) (Or.inl ⟨by rfl, ?_⟩) (by assumption) ?_
          rotate_left
          · (intro w hSw; (try dsimp only at hSw); go_simp; try with_reducible rfl)
          simp only [Act.put, List.getElem_toArray, List.getElem_cons_succ, List.getElem_cons_zero, List.setIfInBounds_toArray, List.set_cons_zero, List.set_cons_succ]
          refine wpAnyH_take (i := 18) (v := ?_) rfl (by kernel_rfl) (by kernel_rfl) (by kernel_rfl) (fun _ _ _ h => h) (Or.inl ⟨by rfl, ?_⟩) (by assumption) ?_
          rotate_left
          · (intro w hSw; (try dsimp only at hSw); go_simp; try with_reducible rfl)
          simp only [Act.put, List.getElem_toArray, List.getElem_cons_succ, List.getElem_cons_zero, List.setIfInBounds_toArray, List.set_cons_zero, List.set_cons_succ]
          refine wpAnyH_take (i := 19) (v := ?_) rfl (by kernel_rfl) (by kernel_rfl) (by kernel_rfl) (fun _ _ _ h => h) (Or.inl ⟨by rfl, ?_⟩) (by assumption) ?_
          rotate_left
          · (intro w hSw; (try dsimp only at hSw); go_simp; try with_reducible rfl)
          simp only [Act.put, List.getElem_toArray, List.getElem_cons_succ, List.getElem_cons_zero, List.setIfInBounds_toArray, List.set_cons_zero, List.set_cons_succ]
          refine wpAnyH_take (i := 20) (v := ?_) rfl (by kernel_rfl) (by kernel_rfl) (by kernel_rfl) (fun _ _ _ h => h) (Or.inl ⟨by rfl, ?_⟩) (by assumption) ?_
          rotate_left
          · (intro w hSw; (try dsimp only at hSw); go_simp; try with_reducible rfl)
          simp only [Act.put, List.getElem_toArray, List.getElem_cons_succ, List.getElem_cons_zero, List.setIfInBounds_toArray, List.set_cons_zero, List.set_cons_succ]
          refine wpAnyH_ready (rs := [21]) (by kernel_rfl) (by simp) ?_
          refine AllReadyH.cons (o := _) rfl (fun K hK => ?_) AllReadyH.nil
          clear hHeld
          go_simp
          refine (hholds_no key key2 k _ _ HTM.out HK2.out HV2.out).mono ?_
          rintro e W12 ⟨rfl, hB⟩
          replace HA2 := Lib.hid (HA2.out.below hB)
          replace HT := Lib.hid (HT.out.below hB)
          replace HC := Lib.hid (And.intro (keep_below hB _ _ HC.out.1) (keep_below hB _ _ HC.out.2))
          replace HB := Lib.hid (HB.out.trans (hB.mono HB.out.size))
          replace HBR := Lib.hid (HBR.out.trans (hB.mono HBR.out.size))
          replace HV := Lib.hid (HV.out.grow hB)
          replace HV2 := Lib.hid (HV2.out.grow hB)
          replace HTM := Lib.hid (HTM.out.below hB)
          clear hB
          try go_simp
          refine hK.out _ _ ?_ (fun hHeld => ?_)
          · exact ⟨HA2.out.2.1, HT.out.2.1, HT.out.2.2.1, HT.out.2.2.2.1, HC.out.1, HC.out.2⟩
          clear hK K
          refine wpAnyH_take (i := 22) (v := ?_) rfl (by kernel_rfl) (by kernel_rfl) (by kernel_rfl) (fun _ _ _ h => h) (Or.inl ⟨by rfl, ?_⟩) (by assumption) ?_
          rotate_left
          · (intro w hSw; (try dsimp only at hSw); go_simp; try with_reducible rfl)
          simp only [Act.put, List.getElem_toArray, List.getElem_cons_succ, List.getElem_cons_zero, List.setIfInBounds_toArray, List.set_cons_zero, List.set_cons_succ]
          refine wpAnyH_take (i := 23) (v := ?_) rfl (by kernel_rfl) (by kernel_rfl) (by kernel_rfl) (fun _ _ _ h => h) (Or.inl ⟨by rfl, ?_⟩) (by assumption) ?_
          rotate_left
          · (intro w hSw; (try dsimp only at hSw); go_simp; try with_reducible rfl)
          simp only [Act.put, List.getElem_toArray, List.getElem_cons_succ, List.getElem_cons_zero, List.setIfInBounds_toArray, List.set_cons_zero, List.set_cons_succ]
          refine wpAnyH_done (by kernel_rfl) ?_ _
          clear hHeld
          go_wp2_with fail
          refine (hnext_calls r _ HTM.out HMS2.out HMX.out (by rw [HM.out]; exact HRM.out)).mono ?_
          rintro e W40 ⟨rfl, rfl⟩
          rw [HM.out]
          go_wp2_with fail
          go_roundw
          case rel => exact ⟨d + 1, (r + 1) % m, rfl, HD1.out, by rw [HR.out, Nat.mod_add_mod]; rfl, HMD.out, HBR.out⟩
          case measure =>
            have e1 := back m key d HD.out
            have e2 := back m key (d + 1) HD1.out
            have h1 := HD1.out
            simp only [intOf]
            rw [show ((r : Int) + 1) % (m : Int) = (((r + 1) % m : Nat) : Int) by rw [Int.natCast_emod]; rfl, Int.toNat_natCast, show (r + 1) % m = (key + (d + 1)) % m by rw [HR.out, Nat.mod_add_mod]; rfl, show ((r : Nat) : Int).toNat = (key + d) % m by rw [Int.toNat_natCast, HR.out], e1, e2]
            omega
end Go.Proofs.YtbdhibcbpgjbmaaGreatDoor

/- Layer 19, walked: Put, Get, New. Written by tools/gen_hay.py. -/
namespace Go.Proofs.YtbdhibcbpgjbmaaGreatDoor
set_option maxRecDepth 100000
open Go.RowKit Fl
set_option linter.unusedVariables false

theorem hkey39 {ok : Nat → Prop} (u : Value) (V : VV) (k : Nat) (w : World) (h : HV19 V) (hk : k < V.len) (hv : IsV w ok u V) :
    Calls Tryz.prog 24 #[.agg #[u], .int .i64 (k : Int)] w fun e w' => e = .returned (.int .u64 (kH (itH V k) : Int)) ∧ Below w.heap.size w w' :=
  hkey_at 39 (hkeyarr_calls 39) u V k w h.1 h.2.1 h.2.2 hk hv
/-- All blocks but two are as they were. -/
def FrT (tb sb : Nat) (w w' : World) : Prop := ∀ k, k < w.heap.size → k ≠ tb → k ≠ sb → w'.heap[k]? = w.heap[k]?
theorem FrT.of {tb sb : Nat} {w w' : World} (h : Below w.heap.size w w') : FrT tb sb w w' := fun k hk _ _ => h.block k hk
/-- What Put turns. -/
def PutRes (V : VV) (P : List Nat) (S : List (Nat × Int)) (h b0 tb sb : Nat) (u : Value) (i r : Nat) (w' : World) : Prop :=
  (r = i ∧ (∀ p ∈ P, itH V p ≠ itH V i) ∧ ∃ S', S'.length = S.length ∧ TabM w' b0 tb sb u S' (h + 1) ∧ HTab (itH V) kH V.len (P ++ [i]) S') ∨ (r ∈ P ∧ itH V r = itH V i ∧ TabM w' b0 tb sb u S h)

set_option maxHeartbeats 8000000 in
theorem hput_calls {ok : Nat → Prop} {b0 tb sb : Nat} {u : Value} {V : VV} {S : List (Nat × Int)} {h : Nat} {P : List Nat} (i : Nat) (w : World) (t : TabM w b0 tb sb u S h) (hm : S.length ≤ 4000000)
    (tt : HTab (itH V) kH V.len P S) (hl : P.length < S.length) (hh : (∀ p ∈ P, itH V p ≠ itH V i) → 2 * (h + 1) ≤ S.length) (hk1 : HV19 V) (hi : i < V.len) (hv : IsV w ok u V) (hb0 : b0 ≤ w.heap.size) :
    Calls Tryz.prog 34 #[.pointer (some ⟨tb, 0, none⟩), .int .i64 (i : Int)] w fun e w' => ∃ r : Nat, e = .returned (.int .i64 (r : Int)) ∧ PutRes V P S h b0 tb sb u i r w' ∧ FrT tb sb w w' ∧ Below b0 w w' := by
  obtain ⟨m, hmm⟩ : ∃ m, S.length = m := ⟨_, rfl⟩
  have HM := Lib.hid hmm
  have HMS := Lib.hid (show 0 < S.length from tt.pos)
  have HMX := Lib.hid hm
  have HLP := Lib.hid hl
  have HTT := Lib.hid tt
  have HHH := Lib.hid hh
  have HK := Lib.hid (And.intro hk1 hi)
  have HB0 := Lib.hid hb0
  have HTM := Lib.hid t
  have HV := Lib.hid hv
  have HT := Lib.hid (show At3 w tb u (.slice (some ⟨sb, 0, none⟩) m m) (.int .i64 (h : Int)) by have := t.2.2.2.1; rw [hmm] at this; exact this)
  have HB := Lib.hid (Below.refl w.heap.size w)
  clear hm hl tt hh hk1 hi hb0 t hv hmm
  go_enter Tryz.func34, Tryz.ntmps34
  go_wp2_with fail
  refine (hmade_calls _ HTM.out HMS.out).mono ?_
  rintro e W11 ⟨rfl, hB⟩
  replace HT := Lib.hid (HT.out.below hB)
  replace HB := Lib.hid (HB.out.trans (hB.mono HB.out.size))
  replace HV := Lib.hid (HV.out.grow hB)
  replace HTM := Lib.hid (HTM.out.below hB)
  clear hB
  have cHT0 := HT.out.2.1
  have cHT1 := HT.out.2.2.1
  have cHT2 := HT.out.2.2.2.1
  go_wp2_with fail
  refine (hhas1_yes _ _ _ _ HV.out HK.out.2).mono ?_
  rintro e W12 ⟨rfl, hB⟩
  clear cHT0 cHT1 cHT2
  replace HT := Lib.hid (HT.out.below hB)
  replace HB := Lib.hid (HB.out.trans (hB.mono HB.out.size))
  replace HV := Lib.hid (HV.out.grow hB)
  replace HTM := Lib.hid (HTM.out.below hB)
  clear hB
  have cHT0 := HT.out.2.1
  have cHT1 := HT.out.2.2.1
  have cHT2 := HT.out.2.2.2.1
  go_wp2_with fail
  refine (hkey39 _ _ _ _ HK.out.1 HK.out.2 HV.out).mono ?_
  rintro e W13 ⟨rfl, hB⟩
  clear cHT0 cHT1 cHT2
  replace HT := Lib.hid (HT.out.below hB)
  replace HB := Lib.hid (HB.out.trans (hB.mono HB.out.size))
  replace HV := Lib.hid (HV.out.grow hB)
  replace HTM := Lib.hid (HTM.out.below hB)
  clear hB
  have cHT0 := HT.out.2.1
  have cHT1 := HT.out.2.2.1
  have cHT2 := HT.out.2.2.2.1
  go_wp2_with fail
  refine (hslot_calls (V2 := V) i _ HTM.out HMX.out HTT.out HLP.out HK.out.1 HK.out.1 HK.out.2 HV.out HV.out).mono ?_
  rintro e W14 ⟨r, rfl, hres, hB⟩
  clear cHT0 cHT1 cHT2
  replace HT := Lib.hid (HT.out.below hB)
  replace HB := Lib.hid (HB.out.trans (hB.mono HB.out.size))
  replace HV := Lib.hid (HV.out.grow hB)
  replace HTM := Lib.hid (HTM.out.below hB)
  clear hB
  have HRES := Lib.hid hres
  have HRM := Lib.hid (show r < m by rw [← HM.out]; exact hres.1)
  have hrm := HRM.out
  obtain ⟨sl, hsl⟩ : ∃ sl, sAt S r = sl := ⟨_, rfl⟩
  have HSL := Lib.hid hsl
  obtain ⟨hc0, hc1⟩ := HTM.out.2.2.2.2.cell (sAt_get hres.1)
  rw [hsl] at hc0 hc1
  clear hsl hres
  rcases Classical.em (sl.2 = -1) with hemp | hemp
  · have cHT0 := HT.out.2.1
    have cHT1 := HT.out.2.2.1
    have cHT2 := HT.out.2.2.2.1
    have zHT0 := HT.out.2.2.2.2 0
    have zHT1 := HT.out.2.2.2.2 1
    have zHT2 := HT.out.2.2.2.2 2
    rw [hemp] at hc1
    have HEM := Lib.hid (show (sAt S r).2 = -1 by rw [HSL.out]; exact hemp)
    have z0 := HTM.out.2.2.2.2.free (r * 2)
    have z1 := HTM.out.2.2.2.2.free (r * 2 + 1)
    have ne1 : (tb = sb) = False := eq_false HTM.out.2.2.1
    have ne2 : (sb = tb) = False := eq_false (fun e => HTM.out.2.2.1 e.symm)
    have HNO := Lib.hid (show ∀ p ∈ P, itH V p ≠ itH V i by
      rcases HRES.out.2 with h1 | ⟨p, hp, h1, _⟩
      · exact h1.2.1
      · have := HEM.out; rw [h1] at this; simp at this)
    have HH2 := Lib.hid (HHH.out HNO.out)
    have hw1 : IntKind.i64.wrap ((h : Int) + 1) = (h : Int) + 1 := by rw [IntWalk.i64_in _ (by have := HH2.out; have := HMX.out; omega)]
    obtain ⟨W9, hW9⟩ : ∃ W9, (((W14).setCell ⟨sb, r * 2, none⟩ (.int .u64 (kH (itH V i) : Int))).setCell ⟨sb, r * 2 + 1, none⟩ (.int .i64 (i : Int))).setCell ⟨tb, 2, none⟩ (.int .i64 ((h : Int) + 1)) = W9 := ⟨_, rfl⟩
    have HR2 := Lib.hid (show RowH W9 sb (S.set r (kH (itH V i), (i : Int))) by
      rw [← hW9]
      exact (HTM.out.2.2.2.2.set r (kH (itH V i), (i : Int)) (by rw [HM.out]; exact HRM.out)).kept (grown_setCell _ _ _) (fun e => HTM.out.2.2.1 e.symm))
    have HT2 := Lib.hid (show At3 W9 tb u (.slice (some ⟨sb, 0, none⟩) (S.set r (kH (itH V i), (i : Int))).length (S.set r (kH (itH V i), (i : Int))).length) (.int .i64 ((h + 1 : Nat) : Int)) by
      rw [← hW9, List.length_set, show ((h + 1 : Nat) : Int) = (h : Int) + 1 from rfl]
      exact ((HTM.out.2.2.2.1.other _ HTM.out.2.2.1 _).other _ HTM.out.2.2.1 _).set2 _)
    have HTM2 := Lib.hid (show TabM W9 b0 tb sb u (S.set r (kH (itH V i), (i : Int))) (h + 1) from ⟨HTM.out.1, HTM.out.2.1, HTM.out.2.2.1, HT2.out, HR2.out⟩)
    have HB9 := Lib.hid (show Below b0 w W9 by
      rw [← hW9]
      exact (((HB.out.mono HB0.out).setCell HTM.out.2.1 _).setCell HTM.out.2.1 _).setCell HTM.out.1 _)
    have HFR := Lib.hid (show FrT tb sb w W9 by
      intro k hk h1 h2
      rw [← hW9, Below.heap_setCell _ _ _ _ h1, Below.heap_setCell _ _ _ _ h2, Below.heap_setCell _ _ _ _ h2]
      exact HB.out.block k hk)
    have HTT2 := Lib.hid (HTT.out.put HK.out.2 HRES.out HEM.out)
    clear hemp
    go_wp2_with fail
    refine (hroom_calls _ HTM2.out (by rw [List.length_set]; exact HMX.out) (by rw [List.length_set]; exact HH2.out)).mono ?_
    rintro e W10 ⟨rfl, hB⟩
    have HB10 := Lib.hid (HB9.out.trans (hB.mono (Nat.le_trans HB0.out HB9.out.size)))
    have HTM3 := Lib.hid (HTM2.out.below hB)
    have HFR2 := Lib.hid (show FrT tb sb w W10 from fun k hk h1 h2 => (hB.block k (Nat.lt_of_lt_of_le hk HB9.out.size)).trans (HFR.out k hk h1 h2))
    clear hB
    clear cHT0 cHT1 cHT2 zHT0 zHT1 zHT2
    go_wp2_with fail
    go_ret
    exact ⟨i, rfl, Or.inl ⟨rfl, HNO.out, _, List.length_set, HTM3.out, HTT2.out⟩, HFR2.out, HB10.out⟩
  · have cHT0 := HT.out.2.1
    have cHT1 := HT.out.2.2.1
    have cHT2 := HT.out.2.2.2.1
    obtain ⟨p, hp, hsp, hpx⟩ : ∃ p ∈ P, sl = (kH (itH V p), (p : Int)) ∧ itH V p = itH V i := by
      rcases HRES.out.2 with h1 | ⟨p, hp, h1, h2⟩
      · rw [HSL.out] at h1; exact absurd h1.1 hemp
      · rw [HSL.out] at h1; exact ⟨p, hp, h1, h2⟩
    have HP := Lib.hid (And.intro hp hpx)
    subst hsp
    have hpm : ((p : Int) == -1) = false := by simp
    clear hemp hp hpx
    go_wp2_with fail
    go_ret
    exact ⟨p, rfl, Or.inr ⟨HP.out.1, HP.out.2, HTM.out⟩, FrT.of HB.out, HB.out.mono HB0.out⟩

set_option maxHeartbeats 8000000 in
theorem hget_calls {ok ok2 : Nat → Prop} {b0 tb sb : Nat} {u u2 : Value} {V V2 : VV} {S : List (Nat × Int)} {h : Nat} {P : List Nat} (k : Nat) (w : World) (t : TabM w b0 tb sb u S h) (hm : S.length ≤ 4000000)
    (tt : HTab (itH V) kH V.len P S) (hl : P.length < S.length) (hk1 : HV19 V) (hk2 : HV19 V2) (hk : k < V2.len) (hv : IsV w ok u V) (hv2 : IsV w ok2 u2 V2) :
    Calls Tryz.prog 64 #[.pointer (some ⟨tb, 0, none⟩), .agg #[u2], .int .i64 (k : Int)] w fun e w' => ∃ r : Int, e = .returned (.int .i64 r) ∧ ((r = -1 ∧ ∀ p ∈ P, itH V p ≠ itH V2 k) ∨ ∃ p ∈ P, r = (p : Int) ∧ itH V p = itH V2 k) ∧ Below w.heap.size w w' := by
  have hsx2 := hv2.store
  obtain ⟨m, hmm⟩ : ∃ m, S.length = m := ⟨_, rfl⟩
  have HM := Lib.hid hmm
  have HMS := Lib.hid (show 0 < S.length from tt.pos)
  have HMX := Lib.hid hm
  have HLP := Lib.hid hl
  have HTT := Lib.hid tt
  have HK := Lib.hid (And.intro hk1 (And.intro hk2 hk))
  obtain ⟨W1, hW1⟩ : ∃ W1, w.alloc (.cells #[u2] 36) = W1 := ⟨_, rfl⟩
  have HA2 := Lib.hid (show At1 W1 w.heap.size u2 by rw [← hW1]; exact At1.new _ _ _)
  have HB := Lib.hid (show Below w.heap.size w W1 by rw [← hW1]; exact below_new _ _)
  have HV := Lib.hid (hv.grow HB.out)
  have HV2 := Lib.hid (hv2.grow HB.out)
  have HTM := Lib.hid (t.below HB.out)
  have HT := Lib.hid (show At3 W1 tb u (.slice (some ⟨sb, 0, none⟩) m m) (.int .i64 (h : Int)) by have := HTM.out.2.2.2.1; rw [hmm] at this; exact this)
  clear hk1 hk2 hk hv hv2 t hm tt hl hmm
  go_enter Tryz.func64, Tryz.ntmps64
  go_wp2_with fail
  clear hW1
  refine (hmade_calls _ HTM.out HMS.out).mono ?_
  rintro e W11 ⟨rfl, hB⟩
  replace HA2 := Lib.hid (HA2.out.below hB)
  replace HT := Lib.hid (HT.out.below hB)
  replace HB := Lib.hid (HB.out.trans (hB.mono HB.out.size))
  replace HV := Lib.hid (HV.out.grow hB)
  replace HV2 := Lib.hid (HV2.out.grow hB)
  replace HTM := Lib.hid (HTM.out.below hB)
  clear hB
  have cHA20 := HA2.out.2.1
  have cHT0 := HT.out.2.1
  have cHT1 := HT.out.2.2.1
  have cHT2 := HT.out.2.2.2.1
  go_wp2_with fail
  obtain ⟨W12, hWD⟩ : ∃ xw9, W11.drew = xw9 := ⟨_, rfl⟩
  have hB : Below W11.heap.size W11 W12 := by rw [← hWD]; exact Below.drewN' (Below.refl _ _) 1
  clear cHA20 cHT0 cHT1 cHT2
  replace HA2 := Lib.hid (HA2.out.below hB)
  replace HT := Lib.hid (HT.out.below hB)
  replace HB := Lib.hid (HB.out.trans (hB.mono HB.out.size))
  replace HV := Lib.hid (HV.out.grow hB)
  replace HV2 := Lib.hid (HV2.out.grow hB)
  replace HTM := Lib.hid (HTM.out.below hB)
  clear hB
  refine wp_region_held_drew (S := fun w' => w'.cell? ⟨w.heap.size, 0, none⟩ = some (u2) ∧ w'.cell? ⟨tb, 0, none⟩ = some (u) ∧ w'.cell? ⟨tb, 1, none⟩ = some (.slice (some ⟨sb, 0, none⟩) m m) ∧ w'.cell? ⟨tb, 2, none⟩ = some (.int .i64 (h : Int)) ∧ (∀ j : Nat, j < m → w'.cell? ⟨sb, j * 2 + 1, none⟩ = some (.int .i64 (sAt S j).2))) (by kernel_rfl) (by rw [hWD]; exact ⟨HA2.out.2.1, HT.out.2.1, HT.out.2.2.1, HT.out.2.2.2.1, fun j hj => (HTM.out.2.2.2.2.cell (sAt_get (by rw [HM.out]; exact hj))).2⟩) (fun hHeld => ?_)
  rw [hWD] at hHeld ⊢
  clear hWD
  refine wpAnyH_take (i := 0) (v := ?_) rfl (by kernel_rfl) (by kernel_rfl) (by kernel_rfl) (fun _ _ _ h => h) (Or.inl ⟨by rfl, ?_⟩) (by assumption) ?_
  rotate_left
  · (intro w hSw; (try dsimp only at hSw); go_simp; try with_reducible rfl)
  simp only [Act.put, List.getElem_toArray, List.getElem_cons_zero, List.setIfInBounds_toArray, List.set_cons_zero, List.set_cons_succ]
  refine wpAnyH_take (i := 1) (v := ?_) rfl (by kernel_rfl) (by kernel_rfl) (by kernel_rfl) (fun _ _ _ h => h) (Or.inl ⟨by rfl, ?_⟩) (by assumption) ?_
  rotate_left
  · (intro w hSw; (try dsimp only at hSw); go_simp; try with_reducible rfl)
  simp only [Act.put, List.getElem_toArray, List.getElem_cons_succ, List.getElem_cons_zero, List.setIfInBounds_toArray, List.set_cons_zero, List.set_cons_succ]
  refine wpAnyH_take (i := 2) (v := ?_) rfl (by kernel_rfl) (by kernel_rfl) (by kernel_rfl) (fun _ _ _ h => h) (Or.inl ⟨by rfl, ?_⟩) (by assumption) ?_
  rotate_left
  · (intro w hSw; (try dsimp only at hSw); go_simp; try with_reducible rfl)
  simp only [Act.put, List.getElem_toArray, List.getElem_cons_succ, List.getElem_cons_zero, List.setIfInBounds_toArray, List.set_cons_zero, List.set_cons_succ]
  refine wpAnyH_take (i := 3) (v := ?_) rfl (by kernel_rfl) (by kernel_rfl) (by kernel_rfl) (fun _ _ _ h => h) (Or.inl ⟨by rfl, ?_⟩) (by assumption) ?_
  rotate_left
  · (intro w hSw; (try dsimp only at hSw); go_simp; try with_reducible rfl)
  simp only [Act.put, List.getElem_toArray, List.getElem_cons_succ, List.getElem_cons_zero, List.setIfInBounds_toArray, List.set_cons_zero, List.set_cons_succ]
  refine wpAnyH_take (i := 4) (v := ?_) rfl (by kernel_rfl) (by kernel_rfl) (by kernel_rfl) (fun _ _ _ h => h) (Or.inl ⟨by rfl, ?_⟩) (by assumption) ?_
  rotate_left
  · (intro w hSw; (try dsimp only at hSw); go_simp; try with_reducible rfl)
  simp only [Act.put, List.getElem_toArray, List.getElem_cons_succ, List.getElem_cons_zero, List.setIfInBounds_toArray, List.set_cons_zero, List.set_cons_succ]
  refine wpAnyH_take (i := 5) (v := ?_) rfl (by kernel_rfl) (by kernel_rfl) (by kernel_rfl) (fun _ _ _ h => h) (Or.inl ⟨by rfl, ?_⟩) (by assumption) ?_
  rotate_left
  · (intro w hSw; (try dsimp only at hSw); go_simp; try with_reducible rfl)
  simp only [Act.put, List.getElem_toArray, List.getElem_cons_succ, List.getElem_cons_zero, List.setIfInBounds_toArray, List.set_cons_zero, List.set_cons_succ]
  refine wpAnyH_take (i := 6) (v := ?_) rfl (by kernel_rfl) (by kernel_rfl) (by kernel_rfl) (fun _ _ _ h => h) (Or.inl ⟨by rfl, ?_⟩) (by assumption) ?_
  rotate_left
  · (intro w hSw; (try dsimp only at hSw); go_simp; try with_reducible rfl)
  simp only [Act.put, List.getElem_toArray, List.getElem_cons_succ, List.getElem_cons_zero, List.setIfInBounds_toArray, List.set_cons_zero, List.set_cons_succ]
  refine wpAnyH_take (i := 8) (v := ?_) rfl (by kernel_rfl) (by kernel_rfl) (by kernel_rfl) (fun _ _ _ h => h) (Or.inl ⟨by rfl, ?_⟩) (by assumption) ?_
  rotate_left
  · (intro w hSw; (try dsimp only at hSw); go_simp; try with_reducible rfl)
  simp only [Act.put, List.getElem_toArray, List.getElem_cons_succ, List.getElem_cons_zero, List.setIfInBounds_toArray, List.set_cons_zero, List.set_cons_succ]
  refine wpAnyH_take (i := 9) (v := ?_) rfl (by kernel_rfl) (by kernel_rfl) (by kernel_rfl) (fun _ _ _ h => h) (Or.inl ⟨by rfl, ?_⟩) (by assumption) ?_
  rotate_left
  · (intro w hSw; (try dsimp only at hSw); go_simp; try with_reducible rfl)
  simp only [Act.put, List.getElem_toArray, List.getElem_cons_succ, List.getElem_cons_zero, List.setIfInBounds_toArray, List.set_cons_zero, List.set_cons_succ]
  refine wpAnyH_ready (rs := [7]) (by kernel_rfl) (by simp) ?_
  refine AllReadyH.cons (o := _) rfl (fun K hK => ?_) AllReadyH.nil
  clear hHeld
  go_simp
  refine (hkey39 _ _ _ _ HK.out.2.1 HK.out.2.2 HV2.out).mono ?_
  rintro e W13 ⟨rfl, hB⟩
  replace HA2 := Lib.hid (HA2.out.below hB)
  replace HT := Lib.hid (HT.out.below hB)
  replace HB := Lib.hid (HB.out.trans (hB.mono HB.out.size))
  replace HV := Lib.hid (HV.out.grow hB)
  replace HV2 := Lib.hid (HV2.out.grow hB)
  replace HTM := Lib.hid (HTM.out.below hB)
  clear hB
  try go_simp
  refine hK.out _ _ ?_ (fun hHeld => ?_)
  · exact ⟨HA2.out.2.1, HT.out.2.1, HT.out.2.2.1, HT.out.2.2.2.1, fun j hj => (HTM.out.2.2.2.2.cell (sAt_get (by rw [HM.out]; exact hj))).2⟩
  clear hK K
  refine wpAnyH_ready (rs := [10]) (by kernel_rfl) (by simp) ?_
  refine AllReadyH.cons (o := _) rfl (fun K hK => ?_) AllReadyH.nil
  clear hHeld
  go_simp
  refine (hslot_calls (V2 := V2) k _ HTM.out HMX.out HTT.out HLP.out HK.out.1 HK.out.2.1 HK.out.2.2 HV.out HV2.out).mono ?_
  rintro e W14 ⟨r, rfl, hres, hB⟩
  replace HA2 := Lib.hid (HA2.out.below hB)
  replace HT := Lib.hid (HT.out.below hB)
  replace HB := Lib.hid (HB.out.trans (hB.mono HB.out.size))
  replace HV := Lib.hid (HV.out.grow hB)
  replace HV2 := Lib.hid (HV2.out.grow hB)
  replace HTM := Lib.hid (HTM.out.below hB)
  clear hB
  have HRES := Lib.hid hres
  have HRM := Lib.hid (show r < m by rw [← HM.out]; exact hres.1)
  have hrm := HRM.out
  clear hres
  try go_simp
  refine hK.out _ _ ?_ (fun hHeld => ?_)
  · exact ⟨HA2.out.2.1, HT.out.2.1, HT.out.2.2.1, HT.out.2.2.2.1, fun j hj => (HTM.out.2.2.2.2.cell (sAt_get (by rw [HM.out]; exact hj))).2⟩
  clear hK K
  refine wpAnyH_take (i := 11) (v := ?_) rfl (by kernel_rfl) (by kernel_rfl) (by kernel_rfl) (fun _ _ _ h => h) (Or.inl ⟨by rfl, ?_⟩) (by assumption) ?_
  rotate_left
  · (intro w hSw; (try dsimp only at hSw); go_simp; try with_reducible rfl)
  simp only [Act.put, List.getElem_toArray, List.getElem_cons_succ, List.getElem_cons_zero, List.setIfInBounds_toArray, List.set_cons_zero, List.set_cons_succ]
  refine wpAnyH_take (i := 12) (v := ?_) rfl (by kernel_rfl) (by kernel_rfl) (by kernel_rfl) (fun _ _ _ h => h) (Or.inl ⟨by rfl, ?_⟩) (by assumption) ?_
  rotate_left
  · (intro w hSw; (try dsimp only at hSw); go_simp; try with_reducible rfl)
  simp only [Act.put, List.getElem_toArray, List.getElem_cons_succ, List.getElem_cons_zero, List.setIfInBounds_toArray, List.set_cons_zero, List.set_cons_succ]
  refine wpAnyH_take (i := 13) (v := ?_) rfl (by kernel_rfl) (by kernel_rfl) (by kernel_rfl) (fun _ _ _ h => h) (Or.inl ⟨by rfl, ?_⟩) (by assumption) ?_
  rotate_left
  · (intro w hSw; (try dsimp only at hSw); go_simp; try with_reducible rfl)
  simp only [Act.put, List.getElem_toArray, List.getElem_cons_succ, List.getElem_cons_zero, List.setIfInBounds_toArray, List.set_cons_zero, List.set_cons_succ]
  refine wpAnyH_take (i := 14) (v := ?_) rfl (by kernel_rfl) (by kernel_rfl) (by kernel_rfl) (fun _ _ _ h => h) (Or.inl ⟨by rfl, ?_⟩) (by assumption) ?_
  rotate_left
  · (intro w hSw; (try dsimp only at hSw); go_simp; try with_reducible rfl)
  simp only [Act.put, List.getElem_toArray, List.getElem_cons_succ, List.getElem_cons_zero, List.setIfInBounds_toArray, List.set_cons_zero, List.set_cons_succ]
  refine wpAnyH_done (by kernel_rfl) ?_ _
  clear hHeld
  go_wp2_with fail
  go_ret
  refine ⟨(sAt S r).2, rfl, ?_, HB.out⟩
  rcases HRES.out.2 with h1 | ⟨p, hp, h1, h2⟩
  · exact Or.inl ⟨h1.1, h1.2.1⟩
  · exact Or.inr ⟨p, hp, by rw [h1], h2⟩

set_option maxHeartbeats 8000000 in
theorem hnew_calls {ok : Nat → Prop} (u : Value) (V : VV) (w : World) (hm : V.len ≤ 1048576) (hv : IsV w ok u V) :
    Calls Tryz.prog 33 #[.agg #[u], .int .i64 (V.len : Int)] w fun e w' => ∃ tb sb, e = .returned (.pointer (some ⟨tb, 0, none⟩)) ∧ TabM w' w.heap.size tb sb u (List.replicate (2 * max V.len 1) (0, -1)) 0 ∧ Below w.heap.size w w' := by
  have hsx := hv.store
  obtain ⟨W1, hW1⟩ : ∃ W1, w.alloc (.cells #[u] 36) = W1 := ⟨_, rfl⟩
  have HA := Lib.hid (show At1 W1 w.heap.size u by rw [← hW1]; exact At1.new _ _ _)
  have HB := Lib.hid (show Below w.heap.size w W1 by rw [← hW1]; exact below_new _ _)
  have HV := Lib.hid (hv.grow HB.out)
  obtain ⟨n, hn⟩ : ∃ n, V.len = n := ⟨_, rfl⟩
  have HN := Lib.hid hn
  rw [hn] at hm ⊢
  have hmx : max (n : Int) 0 = (n : Int) := by omega
  have hmi : min (n : Int) (n : Int) = (n : Int) := by omega
  obtain ⟨q, hq⟩ : ∃ q, max n 1 = q := ⟨_, rfl⟩
  have hmq : (if ((n : Int) < 1) then (1 : Int) else (n : Int)) = (q : Int) := by split <;> omega
  have hql : q ≤ 1048576 := by omega
  have hw2 : IntKind.i64.wrap (2 * (q : Int)) = 2 * (q : Int) := by rw [IntWalk.i64_in _ (by omega)]
  rw [hq]
  have HQ := Lib.hid hql
  have cHA0 := HA.out.2.1
  clear hv hn hm hq
  go_enter Tryz.func33, Tryz.ntmps33
  go_wp2_with fail
  clear hW1
  refine (vlen_calls _ V _ HV.out).mono ?_
  rintro e W11 ⟨rfl, hB⟩
  clear cHA0
  replace HA := Lib.hid (HA.out.below hB)
  replace HB := Lib.hid (HB.out.trans (hB.mono HB.out.size))
  replace HV := Lib.hid (HV.out.grow hB)
  rw [HN.out]
  clear hB
  have cHA0 := HA.out.2.1
  go_wp2_with fail
  obtain ⟨W12, hWD⟩ : ∃ xw9, W11.drew = xw9 := ⟨_, rfl⟩
  have hB : Below W11.heap.size W11 W12 := by rw [← hWD]; exact Below.drewN' (Below.refl _ _) 1
  clear cHA0
  replace HA := Lib.hid (HA.out.below hB)
  replace HB := Lib.hid (HB.out.trans (hB.mono HB.out.size))
  replace HV := Lib.hid (HV.out.grow hB)
  clear hB
  refine wp_region_held_drew (S := fun w' => w'.cell? ⟨w.heap.size, 0, none⟩ = some (u)) (by kernel_rfl) (by rw [hWD]; exact HA.out.2.1) (fun hHeld => ?_)
  rw [hWD] at hHeld ⊢
  clear hWD
  refine wpAnyH_take (i := 0) (v := ?_) rfl (by kernel_rfl) (by kernel_rfl) (by kernel_rfl) (fun _ _ _ h => h) (Or.inl ⟨by rfl, ?_⟩) (by assumption) ?_
  rotate_left
  · (intro w hSw; (try dsimp only at hSw); go_simp; try with_reducible rfl)
  simp only [Act.put, List.getElem_toArray, List.getElem_cons_zero, List.setIfInBounds_toArray, List.set_cons_zero, List.set_cons_succ]
  refine wpAnyH_take (i := 1) (v := ?_) rfl (by kernel_rfl) (by kernel_rfl) (by kernel_rfl) (fun _ _ _ h => h) (Or.inl ⟨by rfl, ?_⟩) (by assumption) ?_
  rotate_left
  · (intro w hSw; (try dsimp only at hSw); go_simp; try with_reducible rfl)
  simp only [Act.put, List.getElem_toArray, List.getElem_cons_succ, List.getElem_cons_zero, List.setIfInBounds_toArray, List.set_cons_zero, List.set_cons_succ]
  refine wpAnyH_take (i := 2) (v := ?_) rfl (by kernel_rfl) (by kernel_rfl) (by kernel_rfl) (fun _ _ _ h => h) (Or.inl ⟨by rfl, ?_⟩) (by assumption) ?_
  rotate_left
  · (intro w hSw; (try dsimp only at hSw); go_simp; try with_reducible rfl)
  simp only [Act.put, List.getElem_toArray, List.getElem_cons_succ, List.getElem_cons_zero, List.setIfInBounds_toArray, List.set_cons_zero, List.set_cons_succ]
  refine wpAnyH_take (i := 3) (v := ?_) rfl (by kernel_rfl) (by kernel_rfl) (by kernel_rfl) (fun _ _ _ h => h) (Or.inl ⟨by rfl, ?_⟩) (by assumption) ?_
  rotate_left
  · (intro w hSw; (try dsimp only at hSw); go_simp; try with_reducible rfl)
  simp only [Act.put, List.getElem_toArray, List.getElem_cons_succ, List.getElem_cons_zero, List.setIfInBounds_toArray, List.set_cons_zero, List.set_cons_succ]
  refine wpAnyH_ready (rs := [4]) (by kernel_rfl) (by simp) ?_
  refine AllReadyH.cons (o := _) rfl (fun K hK => ?_) AllReadyH.nil
  clear hHeld
  go_simp
  have HE := Lib.hid (hempty_calls (2 * q) W12 (by have := HQ.out; omega))
  rw [show ((2 * q : Nat) : Int) = 2 * (q : Int) by omega] at HE
  have HB0 := HB
  refine (HE.out).mono ?_
  rintro e W13 ⟨sb, rfl, hsb, hR, hB⟩
  replace HA := Lib.hid (HA.out.below hB)
  replace HB := Lib.hid (HB.out.trans (hB.mono HB.out.size))
  replace HV := Lib.hid (HV.out.grow hB)
  have HR := Lib.hid hR
  have HSB := Lib.hid (show w.heap.size ≤ sb from Nat.le_trans HB0.out.size hsb)
  clear hsb hR HE
  clear hB
  clear HB0
  try go_simp
  refine hK.out _ _ ?_ (fun hHeld => ?_)
  · exact HA.out.2.1
  clear hK K
  refine wpAnyH_take (i := 5) (v := ?_) rfl (by kernel_rfl) (by kernel_rfl) (by kernel_rfl) (fun _ _ _ h => h) (Or.inl ⟨by rfl, ?_⟩) (by assumption) ?_
  rotate_left
  · (intro w hSw; (try dsimp only at hSw); go_simp; try with_reducible rfl)
  simp only [Act.put, List.getElem_toArray, List.getElem_cons_succ, List.getElem_cons_zero, List.setIfInBounds_toArray, List.set_cons_zero, List.set_cons_succ]
  refine wpAnyH_ready (rs := [6]) (by kernel_rfl) (by simp) ?_
  refine AllReadyH.cons (o := _) rfl (fun K hK => ?_) AllReadyH.nil
  clear hHeld
  go_simp
  have HSZ := Lib.hid (show w.heap.size ≤ W13.heap.size ∧ sb < W13.heap.size from ⟨HB.out.size, HR.out.lt⟩)
  go_simp
  obtain ⟨W14, hWn⟩ : ∃ xw9, W13.alloc (.cells #[u, .slice (some ⟨sb, 0, none⟩) (2 * q) (2 * q), .int .i64 0] 107) = xw9 := ⟨_, rfl⟩
  have hB : Below W13.heap.size W13 W14 := by rw [← hWn]; exact below_new _ _
  have hNB : At3 W14 W13.heap.size (u) (.slice (some ⟨sb, 0, none⟩) (2 * q) (2 * q)) (.int .i64 0) := by rw [← hWn]; exact At3.new _ _ _ _ _
  rw [hWn]
  clear hWn
  obtain ⟨tb, hnm⟩ : ∃ x, W13.heap.size = x := ⟨_, rfl⟩
  rw [hnm] at hNB HSZ ⊢
  replace HA := Lib.hid (HA.out.below hB)
  replace HB := Lib.hid (HB.out.trans (hB.mono HB.out.size))
  replace HV := Lib.hid (HV.out.grow hB)
  replace HR := Lib.hid (HR.out.below hB)
  have HT := Lib.hid hNB
  clear hNB hB hnm
  try go_simp
  refine hK.out _ _ ?_ (fun hHeld => ?_)
  · exact HA.out.2.1
  clear hK K
  refine wpAnyH_take (i := 7) (v := ?_) rfl (by kernel_rfl) (by kernel_rfl) (by kernel_rfl) (fun _ _ _ h => h) (Or.inl ⟨by rfl, ?_⟩) (by assumption) ?_
  rotate_left
  · (intro w hSw; (try dsimp only at hSw); go_simp; try with_reducible rfl)
  simp only [Act.put, List.getElem_toArray, List.getElem_cons_succ, List.getElem_cons_zero, List.setIfInBounds_toArray, List.set_cons_zero, List.set_cons_succ]
  refine wpAnyH_done (by kernel_rfl) ?_ _
  clear hHeld
  go_wp2_with fail
  go_ret
  refine ⟨tb, sb, rfl, ⟨HSZ.out.1, HSB.out, by have := HSZ.out.2; omega, by rw [List.length_replicate]; exact HT.out, HR.out⟩, HB.out⟩

theorem itH_at {A : VV} {i : Nat} (h : i < A.len) : atI (itsA 39 A) (blankI 0) (i : Int) = itH A i := by
  rw [atI_nat (by rw [itsA_len]; exact h)]
  have := itsA_get (d := 39) h
  rw [List.getElem?_eq_getElem (by rw [itsA_len]; exact h)] at this
  exact Option.some.inj this
theorem put_next {A : VV} {S : List (Nat × Int)} {b0 tb sb j r : Nat} {u : Value} {w' : World} (hj : j < A.len) (hS : HTab (itH A) kH A.len (fstL (itsA 39 A) j) S) (hp : PutRes A (fstL (itsA 39 A) j) S (fstL (itsA 39 A) j).length b0 tb sb u j r w') :
    (∃ S', S'.length = S.length ∧ TabM w' b0 tb sb u S' (fstL (itsA 39 A) (j + 1)).length ∧ HTab (itH A) kH A.len (fstL (itsA 39 A) (j + 1)) S') ∧ r = fndI (itsA 39 A) (itH A j) ∧ (r = j ∨ r < j) := by
  have hlt : ∀ p ∈ fstL (itsA 39 A) j, p < A.len := fun p hp => by have := (fstL_mem hp).1; omega
  have hlen := itsA_len 39 A
  rcases hp with ⟨rfl, hno, S', h1, h2, h3⟩ | ⟨hr, he, ht⟩
  · have hge := fst_miss (l := itsA 39 A) (j := r) (x := itH A r) (by omega) (fun p hp => by rw [itH_at (hlt p hp)]; exact hno p hp)
    have hle := fndI_self (l := itsA 39 A) (j := r) (by omega)
    rw [itH_at hj] at hle
    have hf : fndI (itsA 39 A) (itH A r) = r := by omega
    rw [fstL_snoc, itH_at hj, if_pos hf, List.length_append]
    exact ⟨⟨S', h1, h2, h3⟩, hf.symm, Or.inl rfl⟩
  · obtain ⟨hf, hl⟩ := fst_hit (x := itH A j) hr (by rw [itH_at (hlt r hr)]; exact he)
    rw [fstL_snoc, itH_at hj, if_neg (by omega), List.append_nil]
    exact ⟨⟨S, rfl, ht, hS⟩, hf.symm, Or.inr hl⟩
theorem get_val {A : VV} {x : PI} {r : Int} (h : (r = -1 ∧ ∀ p ∈ fstL (itsA 39 A) A.len, itH A p ≠ x) ∨ ∃ p ∈ fstL (itsA 39 A) A.len, r = (p : Int) ∧ itH A p = x) :
    r = if fndI (itsA 39 A) x < A.len then (fndI (itsA 39 A) x : Int) else -1 := by
  have hlen := itsA_len 39 A
  rcases h with ⟨rfl, hno⟩ | ⟨p, hp, rfl, he⟩
  · have := fst_miss (l := itsA 39 A) (j := A.len) (x := x) (by omega) (fun p hp => by rw [itH_at (fstL_mem hp).1]; exact hno p hp)
    rw [if_neg (by omega)]
  · obtain ⟨hf, hl⟩ := fst_hit (x := x) hp (by rw [itH_at (fstL_mem hp).1]; exact he)
    rw [if_pos (by omega), hf]
end Go.Proofs.YtbdhibcbpgjbmaaGreatDoor

/- Layer 19, walked: found, Find, Has, Firsts. Written by tools/gen_hau.py. -/
namespace Go.Proofs.YtbdhibcbpgjbmaaGreatDoor
set_option maxRecDepth 100000
open Go.RowKit Fl
set_option linter.unusedVariables false

/-- What a table tells of an item: its first place, or none. -/
noncomputable def fndV (A : VV) (x : PI) : Int := if fndI (itsA 39 A) x < A.len then (fndI (itsA 39 A) x : Int) else -1
theorem itsA_at {B : VV} {k : Nat} (h : k < B.len) : (itsA 39 B)[k]? = some (itH B k) := itsA_get h

set_option maxHeartbeats 8000000 in
theorem hfound_calls {ok ok2 : Nat → Prop} (u u2 : Value) (A B : VV) (w : World) (h : IsV w ok u A) (hA : HV19 A) (h2 : IsV w ok2 u2 B) (hB : HV19 B) :
    Calls Tryz.prog 30 #[.agg #[u], .agg #[u2]] w fun e w' => ∃ g, e = .returned (.slice (some ⟨g, 0, none⟩) B.len B.len) ∧ w.heap.size ≤ g ∧ w'.ownsRow w.heap.size 3 1 (.slice (some ⟨g, 0, none⟩) B.len B.len) B.len (ints ((itsA 39 B).map (fndV A))) ∧ Below w.heap.size w w' := by
  have hsx := h.store
  have hsx2 := h2.store
  obtain ⟨W1, hW1⟩ : ∃ W1, (w.alloc (.cells #[u] 36)).alloc (.cells #[u2] 36) = W1 := ⟨_, rfl⟩
  have HA := Lib.hid (show At1 W1 w.heap.size u by rw [← hW1]; exact (At1.new _ _ _).below (below_new _ _))
  have HA2 := Lib.hid (show At1 W1 (w.heap.size + 1) u2 by rw [← hW1]; have := At1.new (w.alloc (.cells #[u] 36)) u2 36; simpa using this)
  have HB := Lib.hid (show Below w.heap.size w W1 by rw [← hW1]; exact (below_new _ _).alloc (by simp) _)
  have HV := Lib.hid (h.grow HB.out)
  have HV2 := Lib.hid (h2.grow HB.out)
  have HK := Lib.hid (And.intro hA hB)
  obtain ⟨n, hn⟩ : ∃ n, A.len = n := ⟨_, rfl⟩
  have HN := Lib.hid hn
  have HNM := Lib.hid (show n ≤ 1048576 by rw [← hn]; exact VV.ok_len hA.1)
  obtain ⟨m, hm⟩ : ∃ m, B.len = m := ⟨_, rfl⟩
  have HM := Lib.hid hm
  have HMM := Lib.hid (show m ≤ 1048576 by rw [← hm]; exact VV.ok_len hB.1)
  rw [hm]
  obtain ⟨xs, hxs⟩ : ∃ xs : List Value, ints ((itsA 39 B).map (fndV A)) = xs := ⟨_, rfl⟩
  have HXL := Lib.hid (show xs.length = m by rw [← hxs]; simp [ints, itsA_len, HM.out])
  have HX := Lib.hid (show ∀ k (h : k < xs.length), xs[k] = .int .i64 (fndV A (itH B k)) by
    intro k hk
    have hkB : k < B.len := by rw [HM.out, ← HXL.out]; exact hk
    have e : xs[k]? = some (.int .i64 (fndV A (itH B k))) := by
      rw [← hxs]; unfold ints; rw [List.getElem?_map, List.getElem?_map, itsA_at hkB]; rfl
    rw [List.getElem?_eq_getElem hk] at e
    exact Option.some.inj e)
  rw [hxs]
  clear hxs
  clear h hA h2 hB hn hm
  go_enter Tryz.func30, Tryz.ntmps30
  go_wp2_with fail
  clear hW1
  obtain ⟨W11, hWD⟩ : ∃ xw9, W1.drew = xw9 := ⟨_, rfl⟩
  have hB : Below W1.heap.size W1 W11 := by rw [← hWD]; exact Below.drewN' (Below.refl _ _) 1
  replace HA := Lib.hid (HA.out.below hB)
  replace HA2 := Lib.hid (HA2.out.below hB)
  replace HB := Lib.hid (HB.out.trans (hB.mono HB.out.size))
  replace HV := Lib.hid (HV.out.grow hB)
  replace HV2 := Lib.hid (HV2.out.grow hB)
  clear hB
  refine wp_region_held_drew (S := fun w' => w'.cell? ⟨w.heap.size, 0, none⟩ = some (u) ∧ w'.cell? ⟨w.heap.size + 1, 0, none⟩ = some (u2)) (by kernel_rfl) (by rw [hWD]; exact ⟨HA.out.2.1, HA2.out.2.1⟩) (fun hHeld => ?_)
  rw [hWD] at hHeld ⊢
  clear hWD
  refine wpAnyH_take (i := 0) (v := ?_) rfl (by kernel_rfl) (by kernel_rfl) (by kernel_rfl) (fun _ _ _ h => h) (Or.inl ⟨by rfl, ?_⟩) (by assumption) ?_
  rotate_left
  · (intro w hSw; (try dsimp only at hSw); go_simp; try with_reducible rfl)
  simp only [Act.put, List.getElem_toArray, List.getElem_cons_zero, List.setIfInBounds_toArray, List.set_cons_zero, List.set_cons_succ]
  refine wpAnyH_take (i := 1) (v := ?_) rfl (by kernel_rfl) (by kernel_rfl) (by kernel_rfl) (fun _ _ _ h => h) (Or.inl ⟨by rfl, ?_⟩) (by assumption) ?_
  rotate_left
  · (intro w hSw; (try dsimp only at hSw); go_simp; try with_reducible rfl)
  simp only [Act.put, List.getElem_toArray, List.getElem_cons_succ, List.getElem_cons_zero, List.setIfInBounds_toArray, List.set_cons_zero, List.set_cons_succ]
  refine wpAnyH_ready (rs := [2]) (by kernel_rfl) (by simp) ?_
  refine AllReadyH.cons (o := _) rfl (fun K hK => ?_) AllReadyH.nil
  clear hHeld
  go_simp
  refine (vlen_calls _ A _ HV.out).mono ?_
  rintro e W12 ⟨rfl, hB⟩
  replace HA := Lib.hid (HA.out.below hB)
  replace HA2 := Lib.hid (HA2.out.below hB)
  replace HB := Lib.hid (HB.out.trans (hB.mono HB.out.size))
  replace HV := Lib.hid (HV.out.grow hB)
  replace HV2 := Lib.hid (HV2.out.grow hB)
  clear hB
  try go_simp
  refine hK.out _ _ ?_ (fun hHeld => ?_)
  · exact ⟨HA.out.2.1, HA2.out.2.1⟩
  clear hK K
  refine wpAnyH_ready (rs := [3]) (by kernel_rfl) (by simp) ?_
  refine AllReadyH.cons (o := _) rfl (fun K hK => ?_) AllReadyH.nil
  clear hHeld
  go_simp
  have HA0 := HA
  have HV0 := HV
  have HB0 := HB
  have HA20 := HA2
  have HV20 := HV2
  refine (hnew_calls u A _ (by rw [HN.out]; exact HNM.out) HV.out).mono ?_
  rintro e W13 ⟨tb, sb, rfl, ht, hB⟩
  replace HA := Lib.hid (HA.out.below hB)
  replace HA2 := Lib.hid (HA2.out.below hB)
  replace HB := Lib.hid (HB.out.trans (hB.mono HB.out.size))
  replace HV := Lib.hid (HV.out.grow hB)
  replace HV2 := Lib.hid (HV2.out.grow hB)
  have HTM := Lib.hid ht
  have HBT := Lib.hid hB
  clear ht
  clear hB
  try go_simp
  refine hK.out _ _ ?_ (fun hHeld => ?_)
  · exact ⟨HA.out.2.1, HA2.out.2.1⟩
  clear hK K
  refine wpAnyH_take (i := 4) (v := ?_) rfl (by kernel_rfl) (by kernel_rfl) (by kernel_rfl) (fun _ _ _ h => h) (Or.inl ⟨by rfl, ?_⟩) (by assumption) ?_
  rotate_left
  · (intro w hSw; (try dsimp only at hSw); go_simp; try with_reducible rfl)
  simp only [Act.put, List.getElem_toArray, List.getElem_cons_succ, List.getElem_cons_zero, List.setIfInBounds_toArray, List.set_cons_zero, List.set_cons_succ]
  refine wpAnyH_done (by kernel_rfl) ?_ _
  clear hHeld
  have cHA0 := HA.out.2.1
  have cHA20 := HA2.out.2.1
  go_wp2_with fail
  refine (vlen_calls _ A _ HV.out).mono ?_
  rintro e W14 ⟨rfl, hB⟩
  clear cHA0 cHA20
  replace HA := Lib.hid (HA.out.below hB)
  replace HA2 := Lib.hid (HA2.out.below hB)
  replace HB := Lib.hid (HB.out.trans (hB.mono HB.out.size))
  replace HV := Lib.hid (HV.out.grow hB)
  replace HV2 := Lib.hid (HV2.out.grow hB)
  replace HTM := Lib.hid (HTM.out.below hB)
  replace HBT := Lib.hid (HBT.out.trans (hB.mono HBT.out.size))
  rw [HN.out]
  clear hB
  have cHA0 := HA.out.2.1
  have cHA20 := HA2.out.2.1
  go_wp2_with fail
  clear cHA0 cHA20
  go_loopw [15] (fun i wr => ∃ (j : Nat) (S : List (Nat × Int)), i = .int .i64 (j : Int) ∧ j ≤ n ∧ S.length = 2 * max n 1 ∧ TabM wr W12.heap.size tb sb u S (fstL (itsA 39 A) j).length ∧ HTab (itH A) kH A.len (fstL (itsA 39 A) j) S ∧ Below W12.heap.size W12 wr) (fun i _ => n - (intOf i).toNat)
  case atStart => exact ⟨0, _, rfl, by omega, by rw [List.length_replicate, HN.out], HTM.out, HTab.start _ _ _ _ (by omega), HBT.out⟩
  case round =>
    obtain ⟨j, S, rfl, hj, hSl, htm, hS, hBr⟩ := hrel
    have HJ := Lib.hid hj
    have HSL := Lib.hid hSl
    have HSX := Lib.hid (show S.length ≤ 4000000 by have := HNM.out; omega)
    have HFL := Lib.hid (fstL_len (itsA 39 A) j)
    clear HA HA2 HV HV2 HB HTM HBT
    have HTM := Lib.hid htm
    have HS := Lib.hid hS
    have HBT := Lib.hid hBr
    have HA := Lib.hid (HA0.out.below hBr)
    have HA2 := Lib.hid (HA20.out.below hBr)
    have HV := Lib.hid (HV0.out.grow hBr)
    have HV2 := Lib.hid (HV20.out.grow hBr)
    have HB := Lib.hid (HB0.out.trans (hBr.mono HB0.out.size))
    clear hj hSl htm hS hBr
    by_cases hlt : j < n
    · have hn9 := HNM.out
      go_wp2_with fail
      refine (hput_calls j _ HTM.out HSX.out HS.out (by have := HFL.out; have := HSL.out; omega) (fun _ => by have := HFL.out; have := HSL.out; omega) HK.out.1 (by rw [HN.out]; exact hlt) HV.out HBT.out.size).mono ?_
      rintro e W40 ⟨r, rfl, hp, _, hBq⟩
      have HP := Lib.hid (put_next (by rw [HN.out]; exact hlt) HS.out hp)
      have HBQ := Lib.hid (HBT.out.trans hBq)
      clear hp hBq
      go_wp2_with fail
      go_roundw
      case rel =>
        obtain ⟨⟨S', h1, h2, h3⟩, _⟩ := HP.out
        exact ⟨j + 1, S', by go_num, by omega, by rw [h1]; exact HSL.out, h2, h3, HBQ.out⟩
      case measure => simp [intOf]; omega
    · have hjl : j = n := by have := HJ.out; omega
      subst hjl
      have HNL := Lib.hid HN.out.symm
      have cHA0 := HA.out.2.1
      have cHA20 := HA2.out.2.1
      go_wp2_with fail
      refine (vlen_calls _ B _ HV2.out).mono ?_
      rintro e W61 ⟨rfl, hB⟩
      clear cHA0 cHA20
      replace HA := Lib.hid (HA.out.below hB)
      replace HA2 := Lib.hid (HA2.out.below hB)
      replace HB := Lib.hid (HB.out.trans (hB.mono HB.out.size))
      replace HV := Lib.hid (HV.out.grow hB)
      replace HV2 := Lib.hid (HV2.out.grow hB)
      replace HTM := Lib.hid (HTM.out.below hB)
      rw [HM.out]
      clear hB
      have cHA0 := HA.out.2.1
      have cHA20 := HA2.out.2.1
      clear cHA0 cHA20
      have hmk := run_mkI2 m (by have := HMM.out; omega) W61
      obtain ⟨W80, hW80⟩ : ∃ W80, W80 = W61.alloc (.cells (zerosV (.int .i64 0) m) 3) := ⟨_, rfl⟩
      have HO0 := Lib.hid (show W80.ownsRow W61.heap.size 3 1 (.slice (some ⟨W61.heap.size, 0, none⟩) m m) m (List.replicate m (.int .i64 0)) by rw [hW80]; exact own_make1 _ _ _ (by have := HMM.out; omega) _ _ (Nat.le_refl _))
      have HW := Lib.hid (show Below W61.heap.size W61 W80 by rw [hW80]; exact below_new _ _)
      obtain ⟨g, hg⟩ : ∃ g, W61.heap.size = g := ⟨_, rfl⟩
      rw [hg] at HO0 HW
      have HG := Lib.hid hg
      go_wp2_with fail
      rw [← hW80]
      clear hW80 hmk
      (try rw [hg])
      clear hg
      go_wp2_with fail
      go_loopw [27] (fun i wr => ∃ k : Nat, k ≤ m ∧ i = .int .i64 k ∧ wr.ownsRow g 3 1 (.slice (some ⟨g, 0, none⟩) m m) m (fillTo xs (.int .i64 0) k) ∧ Below g W61 wr) (fun i _ => m - (intOf i).toNat)
      case atStart => exact ⟨0, by omega, rfl, by rw [fillTo_zero, HXL.out]; exact HO0.out, HW.out⟩
      case round =>
        obtain ⟨k, hk, rfl, hown, hBq⟩ := hrel
        clear HO0 HW
        have HO := Lib.hid hown
        have HBQ := Lib.hid hBq
        have hBw : Below W61.heap.size W61 wr := by rw [HG.out]; exact hBq
        clear hown hBq
        by_cases hlt2 : k < m
        · have HA2q := Lib.hid (HA2.out.below hBw)
          have HVq := Lib.hid (HV.out.grow hBw)
          have HV2q := Lib.hid (HV2.out.grow hBw)
          have HTMq := Lib.hid (HTM.out.below hBw)
          have HXK := Lib.hid (HX.out k (by rw [HXL.out]; exact hlt2))
          have cHA20 := HA2q.out.2.1
          have hm9 := HMM.out
          clear hBw
          go_wp2_with fail
          refine (hget_calls k _ HTMq.out HSX.out HS.out (by have := HFL.out; have := HSL.out; omega) HK.out.1 HK.out.2 (by rw [HM.out]; exact hlt2) HVq.out HV2q.out).mono ?_
          rintro e W90 ⟨r, rfl, hr, hB⟩
          have HR := Lib.hid (get_val (by rw [HNL.out] at hr; exact hr))
          replace HO := Lib.hid (owns_below HO.out hB)
          have HGS := Lib.hid (show g ≤ wr.heap.size by have := HBQ.out.size; rw [HG.out] at this; exact this)
          replace HBQ := Lib.hid (HBQ.out.trans (hB.mono HGS.out))
          have hcw := owns_cell HO.out k (by rw [fillTo_len _ _ _ (by rw [HXL.out]; exact hk), HXL.out]; exact hlt2)
          have hfr := World.ownsRow.frozenAt HO.out k
          obtain ⟨old, hold⟩ : ∃ old, (fillTo xs (.int .i64 0) k)[k]'(by rw [fillTo_len _ _ _ (by rw [HXL.out]; exact hk), HXL.out]; exact hlt2) = old := ⟨_, rfl⟩
          rw [hold] at hcw
          clear hold hB hr cHA20
          go_wp2_with fail
          go_roundw
          case rel =>
            refine ⟨k + 1, by omega, by go_num, ?_, HBQ.out.setCell (Nat.le_refl _) _⟩
            have := (World.ownsRow.stored HO.out k (.int .i64 r)).1
            rw [show Value.int .i64 r = xs[k]'(by rw [HXL.out]; exact hlt2) by rw [HXK.out, HR.out]; rfl, fillTo_set] at this
            rw [show Value.int .i64 r = xs[k]'(by rw [HXL.out]; exact hlt2) by rw [HXK.out, HR.out]; rfl]
            exact this
          case measure => simp [intOf]; omega
        · have hkl : k = m := by omega
          have HK2 := Lib.hid hkl
          clear hkl hBw
          go_wp2_with fail
          go_ret
          have hsz : w.heap.size ≤ g := by rw [← HG.out]; exact HB.out.size
          refine ⟨g, rfl, hsz, ?_, HB.out.trans (by have := HBQ.out.mono hsz; exact this)⟩
          have := HO.out
          rw [HK2.out, ← HXL.out, fillTo_all, HXL.out] at this
          exact own_lower this hsz

/-- A row in the making: the first k of the one, the others of the other. -/
def mixT (L M : List Value) (k : Nat) : List Value := M.take k ++ L.drop k
theorem mixT_len {L M : List Value} (hl : L.length = M.length) (k : Nat) : (mixT L M k).length = M.length := by
  unfold mixT; rw [List.length_append, List.length_take, List.length_drop]; omega
theorem mixT_all {L M : List Value} (hl : L.length = M.length) : mixT L M M.length = M := by
  unfold mixT; rw [List.take_length, List.drop_eq_nil_of_le (by omega), List.append_nil]
theorem mixT_at {L M : List Value} (hl : L.length = M.length) {k : Nat} (hk : k < M.length) : (mixT L M k)[k]? = L[k]? := by
  unfold mixT; rw [List.getElem?_append_right (by rw [List.length_take]; omega), List.getElem?_drop, List.length_take, Nat.min_eq_left (by omega), Nat.sub_self, Nat.add_zero]
theorem mixT_set {L M : List Value} (hl : L.length = M.length) {k : Nat} {x : Value} (hx : M[k]? = some x) : (mixT L M k).set k x = mixT L M (k + 1) := by
  obtain ⟨hk, e⟩ := List.getElem?_eq_some_iff.1 hx
  apply List.ext_getElem?
  intro j
  unfold mixT
  have l1 : (M.take k).length = k := by rw [List.length_take]; omega
  have l2 : (M.take (k + 1)).length = k + 1 := by rw [List.length_take]; omega
  rcases Nat.lt_trichotomy j k with h | h | h
  · rw [List.getElem?_set_ne (by omega), List.getElem?_append_left (by omega), List.getElem?_append_left (by omega), List.getElem?_take, List.getElem?_take, if_pos h, if_pos (by omega)]
  · subst h
    rw [List.getElem?_set_self (by rw [List.length_append, l1, List.length_drop]; omega), List.getElem?_append_left (by omega), List.getElem?_take, if_pos (by omega), hx]
  · rw [List.getElem?_set_ne (by omega), List.getElem?_append_right (by omega), List.getElem?_append_right (by omega), List.getElem?_drop, List.getElem?_drop, l1, l2]
    congr 1; omega
theorem mixT_keep {L M : List Value} (hl : L.length = M.length) {k : Nat} {x : Value} (hx : M[k]? = some x) (hy : L[k]? = some x) : mixT L M k = mixT L M (k + 1) := by
  rw [← mixT_set hl hx]
  apply List.ext_getElem?
  intro j
  by_cases h : j = k
  · subst h
    have hk := (List.getElem?_eq_some_iff.1 hx).1
    rw [List.getElem?_set_self (by rw [mixT_len hl]; exact hk), mixT_at hl hk, hy]
  · rw [List.getElem?_set_ne (fun e => h e.symm)]
theorem Slc.kept19 {w w' : World} {c : Nat} {s : Value} {n : Nat} {xs : List Value} (h : Slc w (fun b => b ≠ c) s n xs) (hg : w.grownBy w' (some c)) : Slc w' (fun b => b ≠ c) s n xs :=
  h.keep (fun a v ho hv => hg.cell hv (by simpa using ho)) (fun _ _ h => h)
theorem fndV_yes {A : VV} {x : PI} (h : fndI (itsA 39 A) x < A.len) : fndV A x = (fndI (itsA 39 A) x : Int) := by unfold fndV; rw [if_pos h]
theorem fndV_no {A : VV} {x : PI} (h : ¬ fndI (itsA 39 A) x < A.len) : fndV A x = -1 ∧ fndI (itsA 39 A) x = A.len := by
  refine ⟨by unfold fndV; rw [if_neg h], ?_⟩
  have := fndI_le (itsA 39 A) x
  rw [itsA_len] at this
  omega

set_option maxHeartbeats 8000000 in
theorem hfind_of {ok ok2 : Nat → Prop} (u u2 : Value) (A B : VV) (w : World) (h : IsV w ok u A) (hA : HV19 A) (h2 : IsV w ok2 u2 B) (hB : HV19 B) :
    Calls Tryz.prog 12 #[.agg #[u], .agg #[u2]] w fun e w' => ∃ v, e = .returned v ∧ Slc w' (fun b => w.heap.size ≤ b) v B.len (ints (zL ((itsA 39 B).map (fndI (itsA 39 A))))) ∧ Below w.heap.size w w' := by
  have hsx := h.store
  have hsx2 := h2.store
  obtain ⟨W1, hW1⟩ : ∃ W1, (w.alloc (.cells #[u] 36)).alloc (.cells #[u2] 36) = W1 := ⟨_, rfl⟩
  have HA := Lib.hid (show At1 W1 w.heap.size u by rw [← hW1]; exact (At1.new _ _ _).below (below_new _ _))
  have HA2 := Lib.hid (show At1 W1 (w.heap.size + 1) u2 by rw [← hW1]; have := At1.new (w.alloc (.cells #[u] 36)) u2 36; simpa using this)
  have HB := Lib.hid (show Below w.heap.size w W1 by rw [← hW1]; exact (below_new _ _).alloc (by simp) _)
  have HV := Lib.hid (h.grow HB.out)
  have HV2 := Lib.hid (h2.grow HB.out)
  have HK := Lib.hid (And.intro hA hB)
  obtain ⟨m, hm⟩ : ∃ m, B.len = m := ⟨_, rfl⟩
  have HM := Lib.hid hm
  have HMM := Lib.hid (show m ≤ 1048576 by rw [← hm]; exact VV.ok_len hB.1)
  obtain ⟨L, hL⟩ : ∃ L, ints ((itsA 39 B).map (fndV A)) = L := ⟨_, rfl⟩
  obtain ⟨M, hMd⟩ : ∃ M, ints (zL ((itsA 39 B).map (fndI (itsA 39 A)))) = M := ⟨_, rfl⟩
  have HLL := Lib.hid hL
  have HLM := Lib.hid (show L.length = M.length by rw [← hL, ← hMd]; simp [ints, zL])
  have HML := Lib.hid (show M.length = m by rw [← hMd]; simp [ints, zL, itsA_len, hm])
  have HLG := Lib.hid (show ∀ k, k < m → L[k]? = some (.int .i64 (fndV A (itH B k))) ∧ M[k]? = some (.int .i64 (fndI (itsA 39 A) (itH B k) : Int)) by
    intro k hk
    have hkB : k < B.len := by rw [hm]; exact hk
    rw [← hL, ← hMd]
    unfold ints zL
    rw [List.getElem?_map, List.getElem?_map, List.getElem?_map, List.getElem?_map, List.getElem?_map, itsA_at hkB]
    exact ⟨rfl, rfl⟩)
  have HNA := Lib.hid (VV.ok_len hA.1)
  rw [hm, hMd]
  have cHA0 := HA.out.2.1
  have cHA20 := HA2.out.2.1
  clear h hA h2 hB hm hL hMd
  go_enter Tryz.func12, Tryz.ntmps12
  go_wp2_with fail
  clear hW1
  refine (hfound_calls u u2 A B _ HV.out HK.out.1 HV2.out HK.out.2).mono ?_
  rintro e W2 ⟨g, rfl, hg, hown, hB⟩
  rw [HLL.out, HM.out] at hown
  rw [HM.out]
  have HO0 := Lib.hid hown
  have HGG := Lib.hid hg
  have HB2 := Lib.hid hB
  clear hown hg hB cHA0 cHA20
  go_wp2_with fail
  go_loopw [13] (fun i wr => ∃ k : Nat, k ≤ m ∧ i = .int .i64 k ∧ wr.ownsRow W1.heap.size 3 1 (.slice (some ⟨g, 0, none⟩) m m) m (mixT L M k) ∧ Below W1.heap.size W1 wr) (fun i _ => m - (intOf i).toNat)
  case atStart => exact ⟨0, by omega, rfl, HO0.out, HB2.out⟩
  case round =>
    obtain ⟨k, hk, rfl, hown, hBq⟩ := hrel
    clear HO0
    have HO := Lib.hid hown
    have HBQ := Lib.hid hBq
    have HAq := Lib.hid (HA.out.below hBq)
    have HVq := Lib.hid (HV.out.grow hBq)
    clear hown hBq
    by_cases hlt : k < m
    · have hm9 := HMM.out
      obtain ⟨eL, eM⟩ := HLG.out k hlt
      obtain ⟨x, hx⟩ : ∃ x, itH B k = x := ⟨_, rfl⟩
      rw [hx] at eL eM
      have hln : (mixT L M k).length = m := by rw [mixT_len HLM.out, HML.out]
      have hcw := owns_cell HO.out k (by rw [hln]; exact hlt)
      have e9 : (mixT L M k)[k]'(by rw [hln]; exact hlt) = .int .i64 (fndV A x) := by
        have e8 := mixT_at HLM.out (show k < M.length by rw [HML.out]; exact hlt)
        rw [eL, List.getElem?_eq_getElem (by rw [hln]; exact hlt)] at e8
        exact Option.some.inj e8
      rw [e9] at hcw
      have hfr := World.ownsRow.frozenAt HO.out k
      have cHA0 := HAq.out.2.1
      clear e9 hln hx
      by_cases hc : fndI (itsA 39 A) x < A.len
      · have HKP := Lib.hid (mixT_keep HLM.out eM (by rw [eL, fndV_yes hc]))
        rw [fndV_yes hc] at hcw
        obtain ⟨p, hp⟩ : ∃ p, fndI (itsA 39 A) x = p := ⟨_, rfl⟩
        rw [hp] at hcw
        have hpm : ((p : Int) == -1) = false := by simp
        clear hc hp eL eM
        go_wp2_with fail
        go_roundw
        case rel => exact ⟨k + 1, by omega, by go_num, by rw [← HKP.out]; exact HO.out, HBQ.out⟩
        case measure => simp [intOf]; omega
      · obtain ⟨h1, h2⟩ := fndV_no hc
        rw [h1] at hcw
        rw [h2] at eM
        have HST := Lib.hid (mixT_set HLM.out eM)
        clear hc h1 h2 eL eM
        go_wp2_with fail
        refine (vlen_calls _ A _ HVq.out).mono ?_
        rintro e W9 ⟨rfl, hB⟩
        clear hcw hfr cHA0
        replace HO := Lib.hid (owns_below HO.out hB)
        replace HBQ := Lib.hid (HBQ.out.trans (hB.mono HBQ.out.size))
        have hcw := owns_cell HO.out k (by rw [mixT_len HLM.out, HML.out]; exact hlt)
        have hfr := World.ownsRow.frozenAt HO.out k
        obtain ⟨old, hold⟩ : ∃ old, (mixT L M k)[k]'(by rw [mixT_len HLM.out, HML.out]; exact hlt) = old := ⟨_, rfl⟩
        rw [hold] at hcw
        clear hold hB
        go_wp2_with fail
        go_roundw
        case rel =>
          refine ⟨k + 1, by omega, by go_num, ?_, HBQ.out.setCell HGG.out _⟩
          have := (World.ownsRow.stored HO.out k (.int .i64 (A.len : Int))).1
          rw [HST.out] at this
          exact this
        case measure => simp [intOf]; omega
    · have hkl : k = m := by omega
      have HK2 := Lib.hid hkl
      clear hkl
      go_wp2_with fail
      go_ret
      refine ⟨_, rfl, ?_, HB.out.trans (HBQ.out.mono HB.out.size)⟩
      have := Slc.owned (own_lower HO.out HB.out.size)
      rw [HK2.out, ← HML.out, mixT_all HLM.out, HML.out] at this
      exact this

set_option maxHeartbeats 8000000 in
theorem hhas_of {ok ok2 : Nat → Prop} (u u2 : Value) (A B : VV) (w : World) (h : IsV w ok u A) (hA : HV19 A) (h2 : IsV w ok2 u2 B) (hB : HV19 B) :
    Calls Tryz.prog 14 #[.agg #[u], .agg #[u2]] w fun e w' => ∃ v, e = .returned v ∧ Slc w' (fun b => w.heap.size ≤ b) v B.len (bools ((itsA 39 B).map (fun x => decide (fndI (itsA 39 A) x < A.len)))) ∧ Below w.heap.size w w' := by
  have hsx := h.store
  have hsx2 := h2.store
  obtain ⟨W1, hW1⟩ : ∃ W1, (w.alloc (.cells #[u] 36)).alloc (.cells #[u2] 36) = W1 := ⟨_, rfl⟩
  have HA := Lib.hid (show At1 W1 w.heap.size u by rw [← hW1]; exact (At1.new _ _ _).below (below_new _ _))
  have HA2 := Lib.hid (show At1 W1 (w.heap.size + 1) u2 by rw [← hW1]; have := At1.new (w.alloc (.cells #[u] 36)) u2 36; simpa using this)
  have HB := Lib.hid (show Below w.heap.size w W1 by rw [← hW1]; exact (below_new _ _).alloc (by simp) _)
  have HV := Lib.hid (h.grow HB.out)
  have HV2 := Lib.hid (h2.grow HB.out)
  have HK := Lib.hid (And.intro hA hB)
  obtain ⟨m, hm⟩ : ∃ m, B.len = m := ⟨_, rfl⟩
  have HM := Lib.hid hm
  have HMM := Lib.hid (show m ≤ 1048576 by rw [← hm]; exact VV.ok_len hB.1)
  obtain ⟨L, hL⟩ : ∃ L, (itsA 39 B).map (fndV A) = L := ⟨_, rfl⟩
  obtain ⟨xs, hxs⟩ : ∃ xs : List Value, bools ((itsA 39 B).map (fun x => decide (fndI (itsA 39 A) x < A.len))) = xs := ⟨_, rfl⟩
  have HLL := Lib.hid hL
  have HLN := Lib.hid (show L.length = m by rw [← hL, List.length_map, itsA_len, hm])
  have HXL := Lib.hid (show xs.length = m by rw [← hxs]; simp [bools, itsA_len, hm])
  have HLG := Lib.hid (show ∀ k, k < m → L[k]? = some (fndV A (itH B k)) ∧ xs[k]? = some (.bool (decide (fndI (itsA 39 A) (itH B k) < A.len))) by
    intro k hk
    have hkB : k < B.len := by rw [hm]; exact hk
    rw [← hL, ← hxs]
    unfold bools
    rw [List.getElem?_map, List.getElem?_map, List.getElem?_map, itsA_at hkB]
    exact ⟨rfl, rfl⟩)
  rw [hm, hxs]
  have cHA0 := HA.out.2.1
  have cHA20 := HA2.out.2.1
  clear h hA h2 hB hm hL hxs
  go_enter Tryz.func14, Tryz.ntmps14
  go_wp2_with fail
  clear hW1
  refine (vlen_calls _ B _ HV2.out).mono ?_
  rintro e W2 ⟨rfl, hB⟩
  rw [HM.out]
  replace HA := Lib.hid (HA.out.below hB)
  replace HA2 := Lib.hid (HA2.out.below hB)
  replace HV := Lib.hid (HV.out.grow hB)
  replace HV2 := Lib.hid (HV2.out.grow hB)
  replace HB := Lib.hid (HB.out.trans (hB.mono HB.out.size))
  clear hB cHA0 cHA20
  have hmk := run_mkB1 m (by have := HMM.out; omega) W2
  obtain ⟨W3, hW3⟩ : ∃ W3, W3 = W2.alloc (.cells (zerosV (.bool false) m) 4) := ⟨_, rfl⟩
  have HO0 := Lib.hid (show W3.ownsRow W2.heap.size 4 1 (.slice (some ⟨W2.heap.size, 0, none⟩) m m) m (List.replicate m (.bool false)) by rw [hW3]; exact own_make1 _ _ _ (by have := HMM.out; omega) _ _ (Nat.le_refl _))
  have HW := Lib.hid (show Below W2.heap.size W2 W3 by rw [hW3]; exact below_new _ _)
  have HGL := Lib.hid (show W2.heap.size < W3.heap.size by rw [hW3]; simp)
  obtain ⟨g, hg⟩ : ∃ g, W2.heap.size = g := ⟨_, rfl⟩
  have hB : Below W2.heap.size W2 W3 := HW.out
  replace HA := Lib.hid (HA.out.below hB)
  replace HA2 := Lib.hid (HA2.out.below hB)
  replace HV := Lib.hid (HV.out.grow hB)
  replace HV2 := Lib.hid (HV2.out.grow hB)
  have HGB := Lib.hid (show w.heap.size ≤ g by rw [← hg]; exact HB.out.size)
  replace HB := Lib.hid (HB.out.trans (hB.mono HB.out.size))
  rw [hg] at HO0 HGL
  have cHA0 := HA.out.2.1
  have cHA20 := HA2.out.2.1
  have HG := Lib.hid hg
  have hfold := hW3.symm
  clear hB HW hW3
  go_wp2_with fail
  clear hfold hmk
  (try rw [hg])
  clear hg
  refine (hfound_calls u u2 A B _ HV.out HK.out.1 HV2.out HK.out.2).mono ?_
  rintro e W4 ⟨gf, rfl, hgf, hown, hB⟩
  rw [HLL.out, HM.out] at hown
  rw [HM.out]
  have HS0 := Lib.hid (show Slc W4 (fun b => b ≠ g) (.slice (some ⟨gf, 0, none⟩) m m) m (ints L) from (Slc.owned hown).keep (Kept.refl _ _) (fun b _ hb => by have := HGL.out; omega))
  replace HO0 := Lib.hid (owns_below HO0.out hB)
  replace HB := Lib.hid (HB.out.trans (hB.mono HB.out.size))
  clear hown hgf hB cHA0 cHA20
  go_wp2_with fail
  go_loopw [15] (fun i wr => ∃ k : Nat, k ≤ m ∧ i = .int .i64 k ∧ wr.ownsRow g 4 1 (.slice (some ⟨g, 0, none⟩) m m) m (fillTo xs (.bool false) k) ∧ Slc wr (fun b => b ≠ g) (.slice (some ⟨gf, 0, none⟩) m m) m (ints L) ∧ Below w.heap.size w wr) (fun i _ => m - (intOf i).toNat)
  case atStart => exact ⟨0, by omega, rfl, by rw [fillTo_zero, HXL.out]; exact HO0.out, HS0.out, HB.out⟩
  case round =>
    obtain ⟨k, hk, rfl, hown, hs, hBq⟩ := hrel
    clear HO0 HS0
    have HO := Lib.hid hown
    have HS := Lib.hid hs
    have HBQ := Lib.hid hBq
    clear hown hBq
    by_cases hlt : k < m
    · have hm9 := HMM.out
      obtain ⟨eL, eX⟩ := HLG.out k hlt
      obtain ⟨x, hx⟩ : ∃ x, itH B k = x := ⟨_, rfl⟩
      rw [hx] at eL eX
      obtain ⟨b, off, cap2, z, e9, hz, hcx⟩ := Slc.at_map (Value.int .i64) (l := L) (by rw [HLN.out]; exact HS.out) k (by rw [HLN.out]; exact hlt)
      rw [HLN.out] at e9
      cases e9
      rw [Nat.zero_add] at hcx
      rw [eL] at hz
      obtain rfl := Option.some.inj hz
      have hln : (fillTo xs (.bool false) k).length = m := by rw [fillTo_len _ _ _ (by rw [HXL.out]; exact hk), HXL.out]
      have hcw := owns_cell HO.out k (by rw [hln]; exact hlt)
      have hfr := World.ownsRow.frozenAt HO.out k
      obtain ⟨old, hold⟩ : ∃ old, (fillTo xs (.bool false) k)[k]'(by rw [hln]; exact hlt) = old := ⟨_, rfl⟩
      rw [hold] at hcw
      obtain ⟨b9, hb9⟩ : ∃ b9, decide (fndI (itsA 39 A) x < A.len) = b9 := ⟨_, rfl⟩
      rw [hb9] at eX
      have HXK := Lib.hid (show xs[k]'(by rw [HXL.out]; exact hlt) = .bool b9 by
        rw [List.getElem?_eq_getElem (by rw [HXL.out]; exact hlt)] at eX
        exact Option.some.inj eX)
      have hne : (fndV A x != -1) = b9 := by
        by_cases hc : fndI (itsA 39 A) x < A.len
        · rw [fndV_yes hc, ← hb9, decide_eq_true hc]; simp
        · rw [(fndV_no hc).1, ← hb9, decide_eq_false hc]; rfl
      obtain ⟨v, hv⟩ : ∃ v, fndV A x = v := ⟨_, rfl⟩
      rw [hv] at hne hcx
      clear hold eL eX hz hx hs hln hb9 hv
      go_wp2_with fail
      go_roundw
      case rel =>
        refine ⟨k + 1, by omega, by go_num, ?_, HS.out.kept19 (grown_setCell _ _ _), HBQ.out.setCell HGB.out _⟩
        have := (World.ownsRow.stored HO.out k (.bool b9)).1
        rw [← HXK.out, fillTo_set] at this
        rw [← HXK.out]
        exact this
      case measure => simp [intOf]; omega
    · have hkl : k = m := by omega
      have HK2 := Lib.hid hkl
      clear hkl hs
      go_wp2_with fail
      go_ret
      refine ⟨_, rfl, ?_, HBQ.out⟩
      have := Slc.owned (own_lower HO.out HGB.out)
      rw [HK2.out, ← HXL.out, fillTo_all, HXL.out] at this
      exact this

theorem owns_keep19 {w w' : World} {base tb sb : Nat} {e : TypeId} {v : Value} {n : Nat} {xs : List Value} (h : w.ownsRow base e 1 v n xs) (hf : FrT tb sb w w') (h1 : tb < base) (h2 : sb < base) : w'.ownsRow base e 1 v n xs := by
  refine ⟨h.1, ?_⟩
  rcases h.2 with hn | ⟨g, cap, cur, hv, hb, hg, hr⟩
  · exact Or.inl hn
  · exact Or.inr ⟨g, cap, cur, hv, hb, (hf g (lt_heap hg) (by omega) (by omega)).trans hg, hr⟩
theorem TabM.kept {w w' : World} {b0 tb sb : Nat} {u : Value} {S : List (Nat × Int)} {h : Nat} {row : Option Nat} (t : TabM w b0 tb sb u S h) (hg : w.grownBy w' row) (h1 : some tb ≠ row) (h2 : some sb ≠ row) : TabM w' b0 tb sb u S h :=
  ⟨t.1, t.2.1, t.2.2.1, t.2.2.2.1.grown hg h1, (hg.block _ t.2.2.2.2.lt h2).trans t.2.2.2.2⟩
theorem TabM.lts {w : World} {b0 tb sb : Nat} {u : Value} {S : List (Nat × Int)} {h : Nat} (t : TabM w b0 tb sb u S h) : tb < w.heap.size ∧ sb < w.heap.size := ⟨t.2.2.2.1.1, t.2.2.2.2.lt⟩
theorem own_block19 {w : World} {base : Nat} {e : TypeId} {v : Value} {n : Nat} {xs : List Value} {tb : Nat} (h : w.ownsRow base e 1 v n xs) (ht : tb < base) : some tb ≠ v.ownBlock := by
  rcases h.2 with ⟨rfl, _⟩ | ⟨g, cap, cur, rfl, hb, _⟩
  · intro e; cases e
  · intro e
    have : tb = g := Option.some.inj e
    omega
theorem zL_app19 (l : List Nat) (k : Nat) : zL (l ++ [k]) = zL l ++ [(k : Int)] := by simp [zL]

set_option maxHeartbeats 8000000 in
theorem hfirsts_of {ok : Nat → Prop} (u : Value) (A : VV) (w : World) (h : IsV w ok u A) (hA : HV19 A) :
    Calls Tryz.prog 18 #[.agg #[u]] w fun e w' => ∃ v, e = .returned v ∧ Slc w' (fun b => w.heap.size ≤ b) v (frsL (itsA 39 A)).length (ints (zL (frsL (itsA 39 A)))) ∧ Below w.heap.size w w' := by
  obtain ⟨i0, hi, hz0, hz1, hz2⟩ := info_parts info_int2
  have HI0 := Lib.hid (And.intro hi (And.intro hz0 (And.intro hz1 hz2)))
  have hsx := h.store
  obtain ⟨W1, hW1⟩ : ∃ W1, w.alloc (.cells #[u] 36) = W1 := ⟨_, rfl⟩
  have HA := Lib.hid (show At1 W1 w.heap.size u by rw [← hW1]; exact At1.new _ _ _)
  have HB := Lib.hid (show Below w.heap.size w W1 by rw [← hW1]; exact below_new _ _)
  have HV := Lib.hid (h.grow HB.out)
  have HK := Lib.hid hA
  obtain ⟨n, hn⟩ : ∃ n, A.len = n := ⟨_, rfl⟩
  have HN := Lib.hid hn
  have HNM := Lib.hid (show n ≤ 1048576 by rw [← hn]; exact VV.ok_len hA.1)
  have HRS := Lib.hid (show fstL (itsA 39 A) n = frsL (itsA 39 A) by rw [← fstL_all, itsA_len, hn])
  clear h hA hn hi hz0 hz1 hz2
  go_enter Tryz.func18, Tryz.ntmps18
  go_wp2_with fail
  clear hW1
  obtain ⟨W11, hWD⟩ : ∃ xw9, W1.drew = xw9 := ⟨_, rfl⟩
  have hB : Below W1.heap.size W1 W11 := by rw [← hWD]; exact Below.drewN' (Below.refl _ _) 1
  replace HA := Lib.hid (HA.out.below hB)
  replace HB := Lib.hid (HB.out.trans (hB.mono HB.out.size))
  replace HV := Lib.hid (HV.out.grow hB)
  clear hB
  refine wp_region_held_drew (S := fun w' => w'.cell? ⟨w.heap.size, 0, none⟩ = some (u)) (by kernel_rfl) (by rw [hWD]; exact HA.out.2.1) (fun hHeld => ?_)
  rw [hWD] at hHeld ⊢
  clear hWD
  refine wpAnyH_take (i := 0) (v := ?_) rfl (by kernel_rfl) (by kernel_rfl) (by kernel_rfl) (fun _ _ _ h => h) (Or.inl ⟨by rfl, ?_⟩) (by assumption) ?_
  rotate_left
  · (intro w hSw; (try dsimp only at hSw); go_simp; try with_reducible rfl)
  simp only [Act.put, List.getElem_toArray, List.getElem_cons_zero, List.setIfInBounds_toArray, List.set_cons_zero, List.set_cons_succ]
  refine wpAnyH_take (i := 1) (v := ?_) rfl (by kernel_rfl) (by kernel_rfl) (by kernel_rfl) (fun _ _ _ h => h) (Or.inl ⟨by rfl, ?_⟩) (by assumption) ?_
  rotate_left
  · (intro w hSw; (try dsimp only at hSw); go_simp; try with_reducible rfl)
  simp only [Act.put, List.getElem_toArray, List.getElem_cons_succ, List.getElem_cons_zero, List.setIfInBounds_toArray, List.set_cons_zero, List.set_cons_succ]
  refine wpAnyH_ready (rs := [2]) (by kernel_rfl) (by simp) ?_
  refine AllReadyH.cons (o := _) rfl (fun K hK => ?_) AllReadyH.nil
  clear hHeld
  go_simp
  refine (vlen_calls _ A _ HV.out).mono ?_
  rintro e W12 ⟨rfl, hB⟩
  replace HA := Lib.hid (HA.out.below hB)
  replace HB := Lib.hid (HB.out.trans (hB.mono HB.out.size))
  replace HV := Lib.hid (HV.out.grow hB)
  clear hB
  try go_simp
  refine hK.out _ _ ?_ (fun hHeld => ?_)
  · exact HA.out.2.1
  clear hK K
  refine wpAnyH_ready (rs := [3]) (by kernel_rfl) (by simp) ?_
  refine AllReadyH.cons (o := _) rfl (fun K hK => ?_) AllReadyH.nil
  clear hHeld
  go_simp
  have HA0 := HA
  have HV0 := HV
  have HB0 := HB
  refine (hnew_calls u A _ (by rw [HN.out]; exact HNM.out) HV.out).mono ?_
  rintro e W13 ⟨tb, sb, rfl, ht, hB⟩
  replace HA := Lib.hid (HA.out.below hB)
  replace HB := Lib.hid (HB.out.trans (hB.mono HB.out.size))
  replace HV := Lib.hid (HV.out.grow hB)
  have HTM := Lib.hid ht
  have HBT := Lib.hid hB
  clear ht
  clear hB
  try go_simp
  refine hK.out _ _ ?_ (fun hHeld => ?_)
  · exact HA.out.2.1
  clear hK K
  refine wpAnyH_take (i := 4) (v := ?_) rfl (by kernel_rfl) (by kernel_rfl) (by kernel_rfl) (fun _ _ _ h => h) (Or.inl ⟨by rfl, ?_⟩) (by assumption) ?_
  rotate_left
  · (intro w hSw; (try dsimp only at hSw); go_simp; try with_reducible rfl)
  simp only [Act.put, List.getElem_toArray, List.getElem_cons_succ, List.getElem_cons_zero, List.setIfInBounds_toArray, List.set_cons_zero, List.set_cons_succ]
  refine wpAnyH_done (by kernel_rfl) ?_ _
  clear hHeld
  have cHA0 := HA.out.2.1
  go_wp2_with fail
  refine (vlen_calls _ A _ HV.out).mono ?_
  rintro e W14 ⟨rfl, hB⟩
  clear cHA0
  replace HA := Lib.hid (HA.out.below hB)
  replace HB := Lib.hid (HB.out.trans (hB.mono HB.out.size))
  replace HV := Lib.hid (HV.out.grow hB)
  replace HTM := Lib.hid (HTM.out.below hB)
  replace HBT := Lib.hid (HBT.out.trans (hB.mono HBT.out.size))
  rw [HN.out]
  clear hB
  have cHA0 := HA.out.2.1
  go_wp2_with fail
  clear cHA0
  have HLT := Lib.hid HTM.out.lts
  go_loopw [4, 12] (fun v i wr => ∃ (j : Nat) (S : List (Nat × Int)), i = .int .i64 (j : Int) ∧ j ≤ n ∧ S.length = 2 * max n 1 ∧ TabM wr W12.heap.size tb sb u S (fstL (itsA 39 A) j).length ∧ HTab (itH A) kH A.len (fstL (itsA 39 A) j) S ∧ wr.ownsRow W14.heap.size 3 1 v (fstL (itsA 39 A) j).length (ints (zL (fstL (itsA 39 A) j))) ∧ W14.heap.size ≤ wr.heap.size ∧ Below W12.heap.size W12 wr) (fun _ i _ => n - (intOf i).toNat)
  case atStart => exact ⟨0, _, rfl, by omega, by rw [List.length_replicate, HN.out], HTM.out, HTab.start _ _ _ _ (by omega), World.ownsRow_nil _ _ _ _, Nat.le_refl _, HBT.out⟩
  case round =>
    obtain ⟨j, S, rfl, hj, hSl, htm, hS, hown, hsz, hBr⟩ := hrel
    have HJ := Lib.hid hj
    have HSL := Lib.hid hSl
    have HSX := Lib.hid (show S.length ≤ 4000000 by have := HNM.out; omega)
    have HFL := Lib.hid (fstL_len (itsA 39 A) j)
    have HSZ := Lib.hid hsz
    have HBC := Lib.hid HBT.out.size
    have HBX := Lib.hid HB.out.size
    clear HA HV HB HTM HBT
    have HTM := Lib.hid htm
    have HS := Lib.hid hS
    have HO := Lib.hid hown
    have HBT := Lib.hid hBr
    have HV := Lib.hid (HV0.out.grow hBr)
    have HB := Lib.hid (HB0.out.trans (hBr.mono HB0.out.size))
    obtain ⟨vo, vc, rfl⟩ := owns_form hown
    clear hj hSl htm hS hBr hown hsz
    by_cases hlt : j < n
    · have hn9 := HNM.out
      go_wp2_with fail
      refine (hput_calls j _ HTM.out HSX.out HS.out (by have := HFL.out; have := HSL.out; omega) (fun _ => by have := HFL.out; have := HSL.out; omega) HK.out (by rw [HN.out]; exact hlt) HV.out HBT.out.size).mono ?_
      rintro e W40 ⟨r, rfl, hp, hfr, hBq⟩
      have hpn := put_next (by rw [HN.out]; exact hlt) HS.out hp
      obtain ⟨⟨S', h1, h2, h3⟩, h4, h5⟩ := hpn
      have HO2 := Lib.hid (owns_keep19 HO.out hfr HLT.out.1 HLT.out.2)
      have HBQ := Lib.hid (HBT.out.trans hBq)
      have HSZ2 := Lib.hid (Nat.le_trans HSZ.out hBq.size)
      have HS1 := Lib.hid h1
      have HTM2 := Lib.hid h2
      have HS3 := Lib.hid h3
      have HSN := Lib.hid (show fstL (itsA 39 A) (j + 1) = fstL (itsA 39 A) j ++ (if r = j then [j] else []) by
        rw [fstL_snoc, itH_at (by rw [HN.out]; exact hlt), ← h4])
      clear hp hfr hBq h1 h2 h3 h4
      rcases h5 with hrj | hrj
      · have hme : ((r : Int) == (j : Int)) = true := by rw [hrj]; simp
        rw [if_pos hrj] at HSN
        obtain ⟨c, hc⟩ : ∃ c, (fstL (itsA 39 A) j).length = c := ⟨_, rfl⟩
        have HC := Lib.hid hc
        have HCK := Lib.hid (show c ≤ j by rw [← hc]; exact HFL.out)
        rw [hc] at HO2 ⊢
        clear hrj hc
        obtain ⟨W44, hW4⟩ : ∃ W44, W44 = W40.alloc (.cells #[.int .i64 (j : Int)] 3) := ⟨_, rfl⟩
        have HB4 := Lib.hid (show Below W12.heap.size W12 W44 by rw [hW4]; exact HBQ.out.alloc HBQ.out.size _)
        have HO4 := Lib.hid (show W44.ownsRow W14.heap.size 3 1 (.slice vo c vc) c (ints (zL (fstL (itsA 39 A) j))) by rw [hW4]; exact HO2.out.alloc _)
        have HN4 := Lib.hid (show ∀ i u, ([.int .i64 (j : Int)] : List Value)[i]? = some u → W44.cell? ((⟨W40.heap.size, 0, none⟩ : Addr).add i) = some u by rw [hW4]; exact cell_one_new _ _ _)
        have HTM4 := Lib.hid (show TabM W44 W12.heap.size tb sb u S' (fstL (itsA 39 A) (j + 1)).length by rw [hW4]; exact HTM2.out.below (below_new _ _))
        have HSZ4 := Lib.hid (show W14.heap.size ≤ W44.heap.size by have := HSZ2.out; rw [hW4]; simp; omega)
        have HM1 := Lib.hid (show c + 1 ≤ maxLen by have := HCK.out; unfold maxLen; omega)
        have HM2 := Lib.hid (show (c + 1) * 8 ≤ 140737488355328 by have := HCK.out; omega)
        have hfold4 := hW4.symm
        clear hW4
        go_wp2_with (at_builtin; refine wpList_append_own _ rfl _ _ 22 rfl W14.heap.size 3 i0 (.int .i64 0) 1 8 Tryz.underlying22 HI0.out.1 HI0.out.2.1 HI0.out.2.2.1 HI0.out.2.2.2 rfl (by decide) _ _ _ rfl HO4.out ⟨W40.heap.size, 0, none⟩ 1 1 [.int .i64 (j : Int)] rfl rfl HN4.out (one_intV _) HM1.out HM2.out HSZ4.out ?_)
        intro v' w1 hown' hgrow _
        have HO1 := Lib.hid hown'
        have HTM1 := Lib.hid (HTM4.out.kept hgrow (own_block19 HO4.out HLT.out.1) (own_block19 HO4.out HLT.out.2))
        have HB1 := Lib.hid (grown_below HB4.out HO4.out HBC.out HB4.out.size hgrow)
        have HSZ1 := Lib.hid (Nat.le_trans HSZ4.out hgrow.size)
        clear hown' hgrow hfold4
        go_wp2
        go_roundw
        case rel =>
          refine ⟨j + 1, S', by go_num, by omega, by rw [HS1.out]; exact HSL.out, HTM1.out, HS3.out, ?_, HSZ1.out, HB1.out⟩
          rw [HSN.out, List.length_append, HC.out, zL_app19, ints_append2]
          exact HO1.out
        case measure => simp [intOf]; omega
      · have hme : ((r : Int) == (j : Int)) = false := by rw [beq_eq_false_iff_ne]; omega
        rw [if_neg (by omega), List.append_nil] at HSN
        clear hrj
        go_wp2
        go_roundw
        case rel =>
          refine ⟨j + 1, S', by go_num, by omega, by rw [HS1.out]; exact HSL.out, HTM2.out, HS3.out, ?_, HSZ2.out, HBQ.out⟩
          rw [HSN.out]
          exact HO2.out
        case measure => simp [intOf]; omega
    · have hjl : j = n := by have := HJ.out; omega
      have HO5 := Lib.hid (show wr.ownsRow w.heap.size 3 1 (.slice vo (fstL (itsA 39 A) j).length vc) (frsL (itsA 39 A)).length (ints (zL (frsL (itsA 39 A)))) by
        rw [hjl, HRS.out] at HO ⊢
        exact own_lower HO.out (Nat.le_trans HBX.out (Nat.le_refl _)))
      clear hjl
      go_wp2
      go_ret
      exact ⟨_, rfl, Slc.owned HO5.out, HB.out⟩
end Go.Proofs.YtbdhibcbpgjbmaaGreatDoor

/- Layer 19, walked: listed, chosen. Written by tools/gen_hav.py. -/
namespace Go.Proofs.YtbdhibcbpgjbmaaGreatDoor
set_option maxRecDepth 100000
open Go.RowKit Fl
set_option linter.unusedVariables false

set_option maxHeartbeats 4000000 in
theorem hlistr_calls {ok ok2 : Nat → Prop} (u : Value) (A : VV) (v : Value) (l : List Nat) (w : World) (hu : IsV w ok u A) (hv : Slc w ok2 v l.length (ints (zL l))) (hm : l.length ≤ 1048576) :
    Calls Tryz.prog 74 #[v, .func (.func 55) #[.agg #[u]] #[]] w fun e w' => ∃ v, e = .returned v ∧ Slc w' (fun b => w.heap.size ≤ b) v l.length (i32s (l.map fun (x : Nat) => atI A.text 0 (x : Int))) ∧ Below w.heap.size w w' := by
  obtain ⟨n, hn⟩ : ∃ n, l.length = n := ⟨_, rfl⟩
  rw [hn] at hv hm ⊢
  have HU := Lib.hid hu
  have HV := Lib.hid hv
  have HN := Lib.hid hn
  obtain ⟨ao, cap, rfl, _⟩ := hv.opened
  obtain ⟨xs, hxs⟩ : ∃ xs : List Value, xs = (i32s (l.map fun (x : Nat) => atI A.text 0 (x : Int))) := ⟨_, rfl⟩
  have hxl : xs.length = n := by rw [hxs]; simp [i32s, hn]
  have hget : ∀ k (h : k < xs.length) (x : Nat), l[k]? = some x → xs[k]'h = .int .i32 (atI A.text 0 (x : Int)) := by
    intro k h x hx
    obtain ⟨h1, h2⟩ := List.getElem?_eq_some_iff.1 hx
    simp [hxs, i32s, h2]
  rw [← hxs]
  have HX := Lib.hid hget
  have HXL := Lib.hid hxl
  have hmk := run_mkC1 n (by omega) w
  clear hxs hget hxl hu hv hn
  obtain ⟨W0, hW0⟩ : ∃ W0, W0 = w.alloc (.cells (zerosV (.int .i32 0) n) 21) := ⟨_, rfl⟩
  have HO0 : Hid (W0.ownsRow w.heap.size 21 1 (.slice (some ⟨w.heap.size, 0, none⟩) n n) n (List.replicate n (.int .i32 0))) := Lib.hid (by rw [hW0]; exact own_make1 _ _ _ (by omega) _ _ (Nat.le_refl _))
  have HW := Lib.hid (show Below w.heap.size w W0 by rw [hW0]; exact below_new _ _)
  obtain ⟨g, hg⟩ : ∃ g, w.heap.size = g := ⟨_, rfl⟩
  rw [hg] at HO0 HW
  have HG := Lib.hid hg
  go_enter Tryz.func74, Tryz.ntmps74
  go_wp2_with fail
  rw [← hW0]
  clear hW0 hmk
  (try rw [hg])
  clear hg
  go_wp2_with fail
  go_loopw [13] (fun i wr => ∃ k : Nat, k ≤ n ∧ i = .int .i64 k ∧ wr.ownsRow g 21 1 (.slice (some ⟨g, 0, none⟩) n n) n (fillTo xs (.int .i32 0) k) ∧ Below g w wr) (fun i _ => n - (intOf i).toNat)
  case atStart => exact ⟨0, by omega, rfl, by rw [fillTo_zero, HXL.out]; exact HO0.out, HW.out⟩
  case round =>
    obtain ⟨k, hk, rfl, hown, hB⟩ := hrel
    clear HO0 HW
    have HO := Lib.hid hown
    have HB := Lib.hid hB
    clear hown hB
    by_cases hlt : k < n
    · have hBw : Below w.heap.size w wr := by rw [HG.out]; exact HB.out
      have HU2 := Lib.hid (HU.out.grow hBw)
      obtain ⟨b, off, cap2, x, e9, hx, hcx⟩ := Slc.at_map (Value.int .i64) (l := zL l) (by rw [zL_len, HN.out]; exact HV.out.below hBw) k (by rw [zL_len, HN.out]; exact hlt)
      rw [zL_len, HN.out] at e9
      cases e9
      obtain ⟨p, hp, rfl⟩ := zL_get hx
      have HXK := Lib.hid (HX.out k (by rw [HXL.out]; exact hlt) p hp)
      clear hx hp hBw
      go_wp2_with fail
      refine (vchar_calls u A (p : Int) _ HU2.out).mono ?_
      rintro e w9 ⟨rfl, hB9⟩
      replace HO := Lib.hid (owns_below HO.out hB9)
      have HGS := Lib.hid (show g ≤ wr.heap.size by have := HB.out.size; rw [HG.out] at this; exact this)
      replace HB := Lib.hid (HB.out.trans (hB9.mono HGS.out))
      have hcw := owns_cell HO.out k (by rw [fillTo_len _ _ _ (by rw [HXL.out]; exact hk), HXL.out]; exact hlt)
      have hfr := World.ownsRow.frozenAt HO.out k
      obtain ⟨old, hold⟩ : ∃ old, (fillTo xs (.int .i32 0) k)[k]'(by rw [fillTo_len _ _ _ (by rw [HXL.out]; exact hk), HXL.out]; exact hlt) = old := ⟨_, rfl⟩
      rw [hold] at hcw
      clear hold hB9 hcx
      go_wp2
      go_roundw
      case rel =>
        refine ⟨k + 1, by omega, by go_num, ?_, HB.out.setCell (Nat.le_refl _) _⟩
        have := (World.ownsRow.stored HO.out k (.int .i32 (atI A.text 0 (p : Int)))).1
        rw [← HXK.out, fillTo_set] at this
        rw [← HXK.out]
        exact this
      case measure => simp [intOf]; omega
    · have hkl : k = n := by omega
      have HK := Lib.hid hkl
      clear hkl
      go_wp2
      go_ret
      refine ⟨_, rfl, ?_, by rw [HG.out]; exact HB.out⟩
      have := Slc.owned HO.out
      rw [HK.out, ← HXL.out, fillTo_all, HXL.out] at this
      rw [HG.out]
      exact this
set_option maxHeartbeats 4000000 in
theorem hlistf_calls {ok ok2 : Nat → Prop} (u : Value) (A : VV) (v : Value) (l : List Nat) (w : World) (hu : IsV w ok u A) (hv : Slc w ok2 v l.length (ints (zL l))) (hm : l.length ≤ 1048576) :
    Calls Tryz.prog 77 #[v, .func (.func 59) #[.agg #[u]] #[]] w fun e w' => ∃ v, e = .returned v ∧ Slc w' (fun b => w.heap.size ≤ b) v l.length (f64s (l.map fun (x : Nat) => atI A.nums 0 (x : Int))) ∧ Below w.heap.size w w' := by
  obtain ⟨n, hn⟩ : ∃ n, l.length = n := ⟨_, rfl⟩
  rw [hn] at hv hm ⊢
  have HU := Lib.hid hu
  have HV := Lib.hid hv
  have HN := Lib.hid hn
  obtain ⟨ao, cap, rfl, _⟩ := hv.opened
  have hst := run_store_float
  obtain ⟨xs, hxs⟩ : ∃ xs : List Value, xs = (f64s (l.map fun (x : Nat) => atI A.nums 0 (x : Int))) := ⟨_, rfl⟩
  have hxl : xs.length = n := by rw [hxs]; simp [f64s, hn]
  have hget : ∀ k (h : k < xs.length) (x : Nat), l[k]? = some x → xs[k]'h = .float .f64 (atI A.nums 0 (x : Int)) := by
    intro k h x hx
    obtain ⟨h1, h2⟩ := List.getElem?_eq_some_iff.1 hx
    simp [hxs, f64s, h2]
  rw [← hxs]
  have HX := Lib.hid hget
  have HXL := Lib.hid hxl
  have hmk := run_mkF1 n (by omega) w
  clear hxs hget hxl hu hv hn
  obtain ⟨W0, hW0⟩ : ∃ W0, W0 = w.alloc (.cells (zerosV (.float .f64 0) n) 31) := ⟨_, rfl⟩
  have HO0 : Hid (W0.ownsRow w.heap.size 31 1 (.slice (some ⟨w.heap.size, 0, none⟩) n n) n (List.replicate n (.float .f64 0))) := Lib.hid (by rw [hW0]; exact own_make1 _ _ _ (by omega) _ _ (Nat.le_refl _))
  have HW := Lib.hid (show Below w.heap.size w W0 by rw [hW0]; exact below_new _ _)
  obtain ⟨g, hg⟩ : ∃ g, w.heap.size = g := ⟨_, rfl⟩
  rw [hg] at HO0 HW
  have HG := Lib.hid hg
  go_enter Tryz.func77, Tryz.ntmps77
  go_wp2_with fail
  rw [← hW0]
  clear hW0 hmk
  (try rw [hg])
  clear hg
  go_wp2_with fail
  go_loopw [13] (fun i wr => ∃ k : Nat, k ≤ n ∧ i = .int .i64 k ∧ wr.ownsRow g 31 1 (.slice (some ⟨g, 0, none⟩) n n) n (fillTo xs (.float .f64 0) k) ∧ Below g w wr) (fun i _ => n - (intOf i).toNat)
  case atStart => exact ⟨0, by omega, rfl, by rw [fillTo_zero, HXL.out]; exact HO0.out, HW.out⟩
  case round =>
    obtain ⟨k, hk, rfl, hown, hB⟩ := hrel
    clear HO0 HW
    have HO := Lib.hid hown
    have HB := Lib.hid hB
    clear hown hB
    by_cases hlt : k < n
    · have hBw : Below w.heap.size w wr := by rw [HG.out]; exact HB.out
      have HU2 := Lib.hid (HU.out.grow hBw)
      obtain ⟨b, off, cap2, x, e9, hx, hcx⟩ := Slc.at_map (Value.int .i64) (l := zL l) (by rw [zL_len, HN.out]; exact HV.out.below hBw) k (by rw [zL_len, HN.out]; exact hlt)
      rw [zL_len, HN.out] at e9
      cases e9
      obtain ⟨p, hp, rfl⟩ := zL_get hx
      have HXK := Lib.hid (HX.out k (by rw [HXL.out]; exact hlt) p hp)
      clear hx hp hBw
      go_wp2_with fail
      refine (num_calls u A (p : Int) _ HU2.out).mono ?_
      rintro e w9 ⟨rfl, hB9⟩
      replace HO := Lib.hid (owns_below HO.out hB9)
      have HGS := Lib.hid (show g ≤ wr.heap.size by have := HB.out.size; rw [HG.out] at this; exact this)
      replace HB := Lib.hid (HB.out.trans (hB9.mono HGS.out))
      have hcw := owns_cell HO.out k (by rw [fillTo_len _ _ _ (by rw [HXL.out]; exact hk), HXL.out]; exact hlt)
      have hfr := World.ownsRow.frozenAt HO.out k
      obtain ⟨old, hold⟩ : ∃ old, (fillTo xs (.float .f64 0) k)[k]'(by rw [fillTo_len _ _ _ (by rw [HXL.out]; exact hk), HXL.out]; exact hlt) = old := ⟨_, rfl⟩
      rw [hold] at hcw
      clear hold hB9 hcx
      go_wp2
      go_roundw
      case rel =>
        refine ⟨k + 1, by omega, by go_num, ?_, HB.out.setCell (Nat.le_refl _) _⟩
        have := (World.ownsRow.stored HO.out k (.float .f64 (atI A.nums 0 (p : Int)))).1
        rw [← HXK.out, fillTo_set] at this
        rw [← HXK.out]
        exact this
      case measure => simp [intOf]; omega
    · have hkl : k = n := by omega
      have HK := Lib.hid hkl
      clear hkl
      go_wp2
      go_ret
      refine ⟨_, rfl, ?_, by rw [HG.out]; exact HB.out⟩
      have := Slc.owned HO.out
      rw [HK.out, ← HXL.out, fillTo_all, HXL.out] at this
      rw [HG.out]
      exact this

set_option maxHeartbeats 4000000 in
theorem hlista_calls {ok ok2 : Nat → Prop} (u : Value) (V : VV) (v : Value) (l : List Nat) (w : World) (hu : IsV w ok u V) (hok : V.ok) (hv : Slc w ok2 v l.length (ints (zL l))) (hm : l.length ≤ 1048576) :
    Calls Tryz.prog 76 #[v, .func (.func 57) #[.agg #[u]] #[]] w fun e w' => ∃ v, e = .returned v ∧ Arrs w' (fun b => (ok b ∧ b < w.heap.size) ∨ w.heap.size ≤ b) v (l.map (fun (x : Nat) => atI V.boxs ([], .none) (x : Int))) ∧ Below w.heap.size w w' := by
  obtain ⟨n, hn⟩ : ∃ n, l.length = n := ⟨_, rfl⟩
  rw [hn] at hv hm
  have HNN := Lib.hid hn
  obtain ⟨ao, cap, rfl, _⟩ := hv.opened
  have HV := Lib.hid hv
  have HU := Lib.hid (hu.lt)
  have HOK := Lib.hid hok
  have hmk := run_mkA n (by omega) w
  obtain ⟨L, hL⟩ : ∃ L, l.map (fun (x : Nat) => atI V.boxs ([], .none) (x : Int)) = L := ⟨_, rfl⟩
  have HLL := Lib.hid (show L.length = n by rw [← hL, List.length_map, hn])
  have HLX := Lib.hid (show ∀ (k x : Nat), l[k]? = some x → L[k]? = some (atI V.boxs ([], .none) (x : Int)) by intro k x h; rw [← hL, List.getElem?_map, h]; rfl)
  rw [hL]
  clear hL hv hu hok hn
  obtain ⟨W0, hW0⟩ : ∃ W0, w.alloc (.cells (zerosA n) 38) = W0 := ⟨_, rfl⟩
  have HO0 := Lib.hid (show W0.ownsRow w.heap.size 38 2 (.slice (some ⟨w.heap.size, 0, Option.none⟩) n n) n (pairL n (fun _ => .slice Option.none 0 0) (upTo (fun _ => .nilIface) 0)) by rw [← hW0]; exact own_mkA _ (by omega) _ _ (Nat.le_refl _) _)
  have HW := Lib.hid (show Below w.heap.size w W0 by rw [← hW0]; exact below_new _ _)
  go_enter Tryz.func76, Tryz.ntmps76
  go_wp2_with fail
  clear hW0 hmk
  go_loopw [13] (fun i wr => ∃ (k : Nat) (A B : Nat → Value), k ≤ n ∧ i = .int .i64 k ∧ wr.ownsRow w.heap.size 38 2 (.slice (some ⟨w.heap.size, 0, Option.none⟩) n n) n (pairL n A B) ∧ (∀ i p, i < k → L[i]? = some p → IsArr wr (fun b => (ok b ∧ b < w.heap.size) ∨ w.heap.size < b) (A i) (B i) p) ∧ W0.grownBy wr (some w.heap.size)) (fun i _ => n - (intOf i).toNat)
  case atStart => exact ⟨0, _, _, by omega, rfl, HO0.out, fun i _ h => absurd h (by omega), grown_refl _ _⟩
  case round =>
    obtain ⟨k, A, B, hk, rfl, hown, hA, hgr⟩ := hrel
    have HO := Lib.hid hown
    have HG := Lib.hid hgr
    have HA := Lib.hid hA
    have HB := Lib.hid (show Below w.heap.size w wr from HW.out.grown hgr HW.out.size (fun j hj => by cases hj; omega))
    have HGS := Lib.hid (hown.lt w.heap.size rfl).2
    clear hA hgr hown
    by_cases hlt : k < n
    · obtain ⟨b, off, cap2, x, e9, hx, hcx⟩ := Slc.at_map (Value.int .i64) (l := zL l) (by rw [zL_len, HNN.out]; exact HV.out.below HB.out) k (by rw [zL_len, HNN.out]; exact hlt)
      rw [zL_len, HNN.out] at e9
      cases e9
      obtain ⟨p, hp, rfl⟩ := zL_get hx
      have HLK := Lib.hid (HLX.out k p hp)
      have hm9 := hm
      clear hx hp
      go_wp2_with fail
      refine (vbox_calls _ V (p : Int) _ (HU.out.grow HB.out) HOK.out).mono ?_
      rintro e w2 ⟨sh', x', rfl, hAR, hB2⟩
      have hsx := hAR.2.store
      have HAR := Lib.hid hAR
      obtain ⟨so, sc, rfl, _⟩ := hAR.1.opened
      have HO2 := Lib.hid (owns_below2 HO.out hB2)
      have HG2 := Lib.hid (grown_trans HG.out (grown_any (below_grown hB2) _))
      have HA2 := Lib.hid (show ∀ i p, i < k → L[i]? = some p → IsArr w2 (fun b => (ok b ∧ b < w.heap.size) ∨ w.heap.size < b) (A i) (B i) p from fun i p hi hp => (HA.out i p hi hp).keep (Kept.below hB2) (fun _ _ h => h))
      clear hB2 hAR hcx
      have e1 := owns_cell2 HO2.out (k * 2) (by rw [pairL_len]; omega)
      have e2 := owns_cell2 HO2.out (k * 2 + 1) (by rw [pairL_len]; omega)
      have z1 := World.ownsRow.frozenAt HO2.out (k * 2)
      have z2 := World.ownsRow.frozenAt HO2.out (k * 2 + 1)
      go_wp2
      go_roundw
      case rel =>
        refine ⟨k + 1, upd A k (.slice so (atI V.boxs ([], .none) (p : Int)).1.length sc), upd B k x', by omega, by go_num, ?_, ?_, grown_trans (grown_trans HG2.out (grown_setCell _ ⟨w.heap.size, k * 2, Option.none⟩ _)) (grown_setCell _ ⟨w.heap.size, k * 2 + 1, Option.none⟩ _)⟩
        · have q1 := (World.ownsRow.stored HO2.out (k * 2) (.slice so (atI V.boxs ([], .none) (p : Int)).1.length sc)).1
          have q2 := (World.ownsRow.stored q1 (k * 2 + 1) x').1
          rw [pairL_set1, pairL_set2] at q2
          exact q2
        · intro i q hi hq
          have kk : ∀ a y, Kept (fun b => (ok b ∧ b < w.heap.size) ∨ w.heap.size < b) w2 ((w2.setCell ⟨w.heap.size, k * 2, Option.none⟩ a).setCell ⟨w.heap.size, k * 2 + 1, Option.none⟩ y) := fun a y => (Kept.setCell _ _ _ (by simp)).trans (Kept.setCell _ _ _ (by simp))
          by_cases e : i = k
          · subst e
            simp only [upd, if_true]
            rw [HLK.out] at hq
            obtain rfl := Option.some.inj hq
            exact (HAR.out.keep (ok' := fun b => (ok b ∧ b < w.heap.size) ∨ w.heap.size < b) (Kept.refl _ _) (fun b _ h => by
              rcases h with h | h
              · exact Or.inl h.1
              · exact Or.inr (Nat.lt_of_lt_of_le HGS.out h))).keep (kk _ _) (fun _ _ h => h)
          · simp only [upd, if_neg e]
            exact (HA2.out i q (by omega) hq).keep (kk _ _) (fun _ _ h => h)
      case measure => simp [intOf]; omega
    · have hkl : k = n := by omega
      have HK := Lib.hid hkl
      clear hkl
      go_wp2
      go_ret
      refine ⟨_, rfl, ?_, HB.out⟩
      have := HO.out
      have hL := HLL.out
      subst hL
      refine arrs_of (by omega) this (.inr (Nat.le_refl _)) (fun i p hp => (HA.out i p ?_ hp).keep (Kept.refl _ _) (fun b _ h => by rcases h with h | h; exact .inl h; exact .inr (by omega)))
      obtain ⟨h, _⟩ := List.getElem?_eq_some_iff.1 hp
      rw [HK.out]; exact h
theorem sel_sqL19 {A : VV} (hok : A.ok) (hn : A.nm) (hc : A.cls = 0) {at_ : List Int} (hm : at_.length ≤ 1048576) : A.sel at_ = sqL (at_.map (atI A.nums 0)) := by
  by_cases hb : A.isBit = true
  · have hN := VV.nums_num hok hn
    have e1 := VV.sel_numbers at_ hN hm hc
    rw [← e1]
    rw [VV.sel_bits hb]
    exact VV.canon (V := .bits (at_.map (sqI A.packed))) (by show (at_.map (sqI A.packed)).length ≤ 1048576; rw [List.length_map]; exact hm) trivial rfl rfl (show (0 : Int) < 1 by decide)
  · exact VV.sel_nums hc (by simpa using hb) at_
theorem cut_all19 (L : List Nat) : (VV.floats L).cut 0 (L.length : Int) = sqL L := by
  have e0 : cl8 0 (VV.floats L).len = 0 := by unfold cl8; omega
  have e1 : cl8 (L.length : Int) (VV.floats L).len = L.length := by unfold cl8; simp [VV.len]
  unfold VV.cut
  rw [if_neg (by simp [VV.isBit]), e0, e1, Nat.sub_zero, VV.sel_nums rfl rfl]
  unfold sqL
  congr 2
  apply List.ext_getElem (by simp [cutL])
  intro i h1 h2
  simp only [cutL, List.getElem_map, List.getElem_range]
  rw [show ((0 : Nat) : Int) + (i : Int) = (i : Int) by omega]
  exact atI_nat h2

theorem ok_box19 {V : VV} (h : V.ok) : ∀ p ∈ V.boxs, p.1.length ≤ 1048576 := by
  intro p hp
  cases V <;> simp [VV.boxs] at hp
  exact h.2 _ hp
set_option maxHeartbeats 8000000 in
theorem hchosen_calls {ok ok2 : Nat → Prop} (u : Value) (A : VV) (v : Value) (l : List Nat) (w : World) (h : IsV w ok u A) (hA : A.ok ∧ A.nm) (hv : Slc w ok2 v l.length (ints (zL l))) (hm : l.length ≤ 1048576) (hl : ∀ x ∈ l, x < A.len) (hT : TabAt w) :
    Calls Tryz.prog 40 #[.agg #[u], v] w fun e w' => ∃ u', e = .returned (.agg #[u']) ∧ IsV w' (fun b => (ok b ∧ b < w.heap.size) ∨ w.heap.size ≤ b) u' (A.sel (zL l)) ∧ Below w.heap.size w w' := by
  have hsu := h.store
  obtain ⟨vo, vc, rfl, _⟩ := hv.opened
  obtain ⟨W1, hW1⟩ : ∃ W1, (w.alloc (.cells #[u] 36)).alloc (.cells #[.nilIface] 36) = W1 := ⟨_, rfl⟩
  have HV := Lib.hid (show At1 W1 w.heap.size u by rw [← hW1]; exact (At1.new _ _ _).below (below_new _ _))
  have HR := Lib.hid (show At1 W1 (w.heap.size + 1) .nilIface by rw [← hW1]; have := At1.new (w.alloc (.cells #[u] 36)) .nilIface 36; simpa using this)
  have HB := Lib.hid (show Below w.heap.size w W1 by rw [← hW1]; exact (below_new _ _).alloc (by simp) _)
  have HW1 := Lib.hid (Below.refl W1.heap.size W1)
  have HSZ := Lib.hid (show W1.heap.size = w.heap.size + 2 by rw [← hW1]; simp)
  have HU := Lib.hid (show IsV W1 (fun b => ok b ∧ b < w.heap.size) u A from h.lt.grow HB.out)
  have HVL := Lib.hid (hv.below HB.out)
  have HT := Lib.hid (show TabAt W1 from fun j hj => keep_below HB.out _ _ (hT j hj))
  have HA := Lib.hid hA
  have HLN := Lib.hid hm
  have HLT := Lib.hid hl
  have hc2 : A.cls = 0 ∨ A.cls = 1 ∨ A.cls = 2 := by cases A <;> simp [VV.cls]
  have cHV0 := HV.out.2.1
  have cHR0 := HR.out.2.1
  have zHR0 := HR.out.2.2 0
  clear h hA hv hm hl hT
  go_enter Tryz.func40, Tryz.ntmps40
  go_wp2_with fail
  clear hW1
  refine (class_calls _ A _ HU.out).mono ?_
  rintro e W3 ⟨rfl, hB⟩
  replace HVL := Lib.hid (HVL.out.below hB)
  clear cHV0 cHR0 zHR0
  replace HV := Lib.hid (HV.out.below hB)
  replace HR := Lib.hid (HR.out.below hB)
  replace HU := Lib.hid (HU.out.grow hB)
  replace HT := Lib.hid (fun j hj => keep_below hB _ _ (HT.out j hj))
  replace HB := Lib.hid (HB.out.trans (hB.mono HB.out.size))
  replace HW1 := Lib.hid (HW1.out.trans (hB.mono HW1.out.size))
  clear hB
  have hmf : ∀ (fn : Fn) (first cap : Array Value) (w : World), (Instr.makeFunc fn first cap).run Tryz.prog w = .ok (.func fn first cap) w := fun _ _ _ _ => rfl
  rcases hc2 with hcl | hcl | hcl
  · rw [hcl]
    have HCL := Lib.hid hcl
    clear hcl
    have cHV0 := HV.out.2.1
    go_wp2_with fail
    refine (hlistf_calls u A _ l _ HU.out HVL.out HLN.out).mono ?_
    rintro e W4 ⟨vf, rfl, hvf, hB⟩
    obtain ⟨L, hLL⟩ : ∃ L, (l.map fun (x : Nat) => atI A.nums 0 (x : Int)) = L := ⟨_, rfl⟩
    have hLlen : L.length = l.length := by rw [← hLL, List.length_map]
    have HNUM := Lib.hid (show ∀ x ∈ L, Num x from fun x hx => by
      rw [← hLL] at hx
      obtain ⟨y, hy, rfl⟩ := List.mem_map.1 hx
      have hyl : y < A.nums.length := by rw [VV.nums_length HCL.out]; exact HLT.out y hy
      rw [atI_nat hyl]
      exact VV.nums_num HA.out.1 HA.out.2 _ (List.getElem_mem _))
    have HSEL := Lib.hid (show A.sel (zL l) = sqL L by
      rw [sel_sqL19 HA.out.1 HA.out.2 HCL.out (by rw [zL_len]; exact HLN.out), ← hLL]
      unfold zL; rw [List.map_map]; rfl)
    rw [hLL, ← hLlen] at hvf
    have HVF := Lib.hid hvf
    have HLL2 := Lib.hid (show L.length ≤ 1048576 by rw [hLlen]; exact HLN.out)
    clear hLL hLlen hvf cHV0
    replace HV := Lib.hid (HV.out.below hB)
    replace HR := Lib.hid (HR.out.below hB)
    replace HU := Lib.hid (HU.out.grow hB)
    replace HT := Lib.hid (fun j hj => keep_below hB _ _ (HT.out j hj))
    replace HB := Lib.hid (HB.out.trans (hB.mono HB.out.size))
    replace HW1 := Lib.hid (HW1.out.trans (hB.mono HW1.out.size))
    clear hB
    go_wp2_with fail
    refine (vfloats_yes _ L _ HVF.out (by have := HLL2.out; omega) (fun x hx => (HNUM.out x hx).1)).mono ?_
    rintro e W5 ⟨uz, rfl, huz, hB⟩
    have e9 : L.map ze = L := by
      conv => rhs; rw [← List.map_id L]
      exact List.map_congr_left fun x hx => by rw [ze_of_num (HNUM.out x hx)]; rfl
    rw [e9] at huz
    clear e9
    have HUZ := Lib.hid (show IsV W5 (fun b => w.heap.size + 1 < b) uz (.floats L) from huz.wide (fun b _ h => Nat.lt_of_lt_of_le (by have := HW1.out.size; have := HSZ.out; omega) h))
    have hsz := huz.store
    have HNE := Lib.hid (show w.heap.size + 1 < W5.heap.size by have := HW1.out.size; have := hB.size; have := HSZ.out; omega)
    clear huz
    replace HV := Lib.hid (HV.out.below hB)
    replace HR := Lib.hid (HR.out.below hB)
    replace HU := Lib.hid (HU.out.grow hB)
    replace HT := Lib.hid (fun j hj => keep_below hB _ _ (HT.out j hj))
    replace HB := Lib.hid (HB.out.trans (hB.mono HB.out.size))
    replace HW1 := Lib.hid (HW1.out.trans (hB.mono HW1.out.size))
    clear hB
    obtain ⟨W6, hWn⟩ : ∃ xw9, W5.alloc (.cells #[uz] 36) = xw9 := ⟨_, rfl⟩
    have hB : Below W5.heap.size W5 W6 := by rw [← hWn]; exact below_new _ _
    have HZ := Lib.hid (show At1 W6 W5.heap.size uz by rw [← hWn]; exact At1.new _ _ _)
    replace HUZ := Lib.hid (HUZ.out.grow hB)
    replace HV := Lib.hid (HV.out.below hB)
    replace HR := Lib.hid (HR.out.below hB)
    replace HU := Lib.hid (HU.out.grow hB)
    replace HT := Lib.hid (fun j hj => keep_below hB _ _ (HT.out j hj))
    replace HB := Lib.hid (HB.out.trans (hB.mono HB.out.size))
    replace HW1 := Lib.hid (HW1.out.trans (hB.mono HW1.out.size))
    clear hB
    have cHV0 := HV.out.2.1
    have cHR0 := HR.out.2.1
    have cHZ0 := HZ.out.2.1
    go_wp2_with fail
    clear hWn
    obtain ⟨W7, hWD⟩ : ∃ xw9, W6.drew = xw9 := ⟨_, rfl⟩
    have hB : Below W6.heap.size W6 W7 := by rw [← hWD]; exact Below.drewN' (Below.refl _ _) 1
    replace HZ := Lib.hid (HZ.out.below hB)
    replace HUZ := Lib.hid (HUZ.out.grow hB)
    replace HV := Lib.hid (HV.out.below hB)
    replace HR := Lib.hid (HR.out.below hB)
    replace HU := Lib.hid (HU.out.grow hB)
    replace HT := Lib.hid (fun j hj => keep_below hB _ _ (HT.out j hj))
    replace HB := Lib.hid (HB.out.trans (hB.mono HB.out.size))
    replace HW1 := Lib.hid (HW1.out.trans (hB.mono HW1.out.size))
    clear hB
    refine wp_region_held_drew (S := fun w' => w'.cell? ⟨W5.heap.size, 0, none⟩ = some uz) (by kernel_rfl) (by rw [hWD]; exact HZ.out.2.1) (fun hHeld => ?_)
    rw [hWD] at hHeld ⊢
    clear hWD cHV0 cHR0 cHZ0
    refine wpAnyH_take (i := 0) (v := ?_) rfl (by kernel_rfl) (by kernel_rfl) (by kernel_rfl) (fun _ _ _ h => h) (Or.inl ⟨by rfl, ?_⟩) (by assumption) ?_
    rotate_left
    · (intro w hSw; (try dsimp only at hSw); go_simp; try with_reducible rfl)
    simp only [Act.put, List.getElem_toArray, List.getElem_cons_zero, List.setIfInBounds_toArray, List.set_cons_zero, List.set_cons_succ]
    refine wpAnyH_take (i := 1) (v := ?_) rfl (by kernel_rfl) (by kernel_rfl) (by kernel_rfl) (fun _ _ _ h => h) (Or.inl ⟨by rfl, ?_⟩) (by assumption) ?_
    rotate_left
    · (intro w hSw; (try dsimp only at hSw); go_simp; try with_reducible rfl)
    simp only [Act.put, List.getElem_toArray, List.getElem_cons_succ, List.getElem_cons_zero, List.setIfInBounds_toArray, List.set_cons_zero, List.set_cons_succ]
    refine wpAnyH_ready (rs := [2]) (by kernel_rfl) (by simp) ?_
    refine AllReadyH.cons (o := _) rfl (fun K' hK' => ?_) AllReadyH.nil
    clear hHeld
    go_simp
    refine (vlen_calls _ (.floats L) _ HUZ.out).mono ?_
    rintro e W8 ⟨rfl, hB⟩
    replace HZ := Lib.hid (HZ.out.below hB)
    replace HUZ := Lib.hid (HUZ.out.grow hB)
    replace HV := Lib.hid (HV.out.below hB)
    replace HR := Lib.hid (HR.out.below hB)
    replace HU := Lib.hid (HU.out.grow hB)
    replace HT := Lib.hid (fun j hj => keep_below hB _ _ (HT.out j hj))
    replace HB := Lib.hid (HB.out.trans (hB.mono HB.out.size))
    replace HW1 := Lib.hid (HW1.out.trans (hB.mono HW1.out.size))
    clear hB
    refine hK'.out _ _ HZ.out.2.1 (fun hHeld => ?_)
    clear hK' K'
    refine wpAnyH_ready (rs := [3]) (by kernel_rfl) (by simp) ?_
    refine AllReadyH.cons (o := _) rfl (fun K' hK' => ?_) AllReadyH.nil
    clear hHeld
    go_simp
    have HO := Lib.hid (show w.heap.size + 2 ≤ W8.heap.size by have := HW1.out.size; have := HSZ.out; omega)
    refine (fcut_calls _ (.floats L) 0 (L.length : Int) _ HUZ.out HLL2.out HNUM.out (fun a h => by simp [VV.boxs] at h) HT.out).mono ?_
    rintro e W9 ⟨uq, rfl, huq, hB⟩
    rw [cut_all19] at huq
    have HQ := Lib.hid (show IsV W9 (fun b => w.heap.size + 1 < b) uq (sqL L) from huq.wide (fun b _ h => by rcases h with h | h; exact h.1; exact Nat.lt_of_lt_of_le (by have := HO.out; omega) h))
    have hsq := huq.store
    clear huq
    replace HZ := Lib.hid (HZ.out.below hB)
    replace HV := Lib.hid (HV.out.below hB)
    replace HR := Lib.hid (HR.out.below hB)
    replace HU := Lib.hid (HU.out.grow hB)
    replace HT := Lib.hid (fun j hj => keep_below hB _ _ (HT.out j hj))
    replace HB := Lib.hid (HB.out.trans (hB.mono HB.out.size))
    replace HW1 := Lib.hid (HW1.out.trans (hB.mono HW1.out.size))
    clear hB
    refine hK'.out _ _ HZ.out.2.1 (fun hHeld => ?_)
    clear hK' K'
    refine wpAnyH_ready (rs := [4]) (by kernel_rfl) (by simp) ?_
    refine AllReadyH.cons (o := _) rfl (fun K' hK' => ?_) AllReadyH.nil
    clear hHeld
    have s0 := HR.out.2.1
    have t0 := HR.out.2.2 0
    go_simp
    clear s0 t0
    obtain ⟨W10, hWn⟩ : ∃ xw9, W9.setCell ⟨w.heap.size + 1, 0, none⟩ uq = xw9 := ⟨_, rfl⟩
    rw [hWn]
    replace HR := Lib.hid (show At1 W10 (w.heap.size + 1) uq by rw [← hWn]; exact At1.put1 HR.out _)
    replace HB := Lib.hid (show Below w.heap.size w W10 by rw [← hWn]; exact HB.out.setCell (Nat.le_succ _) _)
    replace HQ := Lib.hid (show IsV W10 (fun b => w.heap.size + 1 < b) uq (sqL L) by rw [← hWn]; exact HQ.out.keep (Kept.setCell _ _ _ (by simp)) (fun _ _ h => h))
    replace HZ := Lib.hid (show At1 W10 W5.heap.size uz by rw [← hWn]; exact HZ.out.grown (grown_setCell _ ⟨w.heap.size + 1, 0, none⟩ _) (by have := HNE.out; simp; omega))
    clear hWn
    refine hK'.out _ _ HZ.out.2.1 (fun hHeld => ?_)
    clear hK' K'
    refine wpAnyH_done (by kernel_rfl) ?_ _
    clear hHeld
    have cHR0 := HR.out.2.1
    go_wp2
    refine bodyPost_ret (v := .agg #[uq]) (by simp [results, Tryz.results40, go_sem, cHR0]) rfl ⟨uq, rfl, ?_, HB.out⟩
    rw [HSEL.out]
    exact HQ.out.wide (fun b _ h => Or.inr (by omega))
  · rw [hcl]
    have HCL := Lib.hid hcl
    clear hcl
    have cHV0 := HV.out.2.1
    go_wp2_with fail
    refine (hlistr_calls u A _ l _ HU.out HVL.out HLN.out).mono ?_
    rintro e W4 ⟨vf, rfl, hvf, hB⟩
    obtain ⟨L, hLL⟩ : ∃ L, (l.map fun (x : Nat) => atI A.text 0 (x : Int)) = L := ⟨_, rfl⟩
    have hLlen : L.length = l.length := by rw [← hLL, List.length_map]
    have HSEL := Lib.hid (show A.sel (zL l) = .chars L by
      rw [VV.sel_chars HCL.out, ← hLL]
      unfold zL; rw [List.map_map]
      congr 1
      refine List.map_congr_left fun x hx => ?_
      have hxl : x < A.text.length := by rw [VV.text_len HCL.out]; exact HLT.out x hx
      show atI A.text 32 (x : Int) = _
      rw [atI_nat hxl, atI_nat hxl])
    rw [hLL, ← hLlen] at hvf
    have HVF := Lib.hid hvf
    have HLL2 := Lib.hid (show L.length ≤ 1048576 by rw [hLlen]; exact HLN.out)
    clear hLL hLlen hvf cHV0
    replace HV := Lib.hid (HV.out.below hB)
    replace HR := Lib.hid (HR.out.below hB)
    replace HU := Lib.hid (HU.out.grow hB)
    replace HT := Lib.hid (fun j hj => keep_below hB _ _ (HT.out j hj))
    replace HB := Lib.hid (HB.out.trans (hB.mono HB.out.size))
    replace HW1 := Lib.hid (HW1.out.trans (hB.mono HW1.out.size))
    clear hB
    go_wp2_with fail
    refine (vchars_calls _ L _ HVF.out (by have := HLL2.out; omega)).mono ?_
    rintro e W5 ⟨uq, rfl, huq, hB⟩
    have HQ := Lib.hid (show IsV W5 (fun b => w.heap.size + 1 < b) uq (.chars L) from huq.wide (fun b _ h => Nat.lt_of_lt_of_le (by have := HW1.out.size; have := HSZ.out; omega) h))
    have hsq := huq.store
    clear huq
    replace HV := Lib.hid (HV.out.below hB)
    replace HR := Lib.hid (HR.out.below hB)
    replace HU := Lib.hid (HU.out.grow hB)
    replace HT := Lib.hid (fun j hj => keep_below hB _ _ (HT.out j hj))
    replace HB := Lib.hid (HB.out.trans (hB.mono HB.out.size))
    replace HW1 := Lib.hid (HW1.out.trans (hB.mono HW1.out.size))
    clear hB
    have cHR0 := HR.out.2.1
    have zHR0 := HR.out.2.2 0
    go_wp2
    refine bodyPost_ret (v := .agg #[uq]) (by simp [results, Tryz.results40, go_sem, cHR0, World.cell?_setCell_same]) rfl ⟨uq, rfl, ?_, HB.out.setCell (Nat.le_succ _) _⟩
    rw [HSEL.out]
    exact HQ.out.keep (Kept.setCell _ _ _ (by simp)) (fun b _ h => Or.inr (by omega))
  · rw [hcl]
    have HCL := Lib.hid hcl
    clear hcl
    have cHV0 := HV.out.2.1
    go_wp2_with fail
    refine (hlista_calls u A _ l _ HU.out HA.out.1 HVL.out HLN.out).mono ?_
    rintro e W4 ⟨vf, rfl, hvf, hB⟩
    obtain ⟨L, hLL⟩ : ∃ L, (l.map fun (x : Nat) => atI A.boxs ([], .none) (x : Int)) = L := ⟨_, rfl⟩
    have hLlen : L.length = l.length := by rw [← hLL, List.length_map]
    have HSEL := Lib.hid (show A.sel (zL l) = .boxes L by
      rw [VV.sel_boxes HCL.out, ← hLL]
      unfold zL; rw [List.map_map]
      congr 1
      refine List.map_congr_left fun x hx => ?_
      have hxl : x < A.boxs.length := by rw [VV.boxs_len HCL.out]; exact HLT.out x hx
      show atI A.boxs blankA (x : Int) = _
      rw [atI_nat hxl, atI_nat hxl])
    have HBS := Lib.hid (show ∀ p ∈ L, p.1.length ≤ 1048576 from fun p hp => by
      rw [← hLL] at hp
      obtain ⟨x, hx, rfl⟩ := List.mem_map.1 hp
      have hxl : x < A.boxs.length := by rw [VV.boxs_len HCL.out]; exact HLT.out x hx
      have hmem := List.getElem_mem hxl
      rw [atI_nat hxl]
      exact ok_box19 HA.out.1 _ hmem)
    rw [hLL] at hvf
    have HVF := Lib.hid hvf
    have HLL2 := Lib.hid (show L.length ≤ 1048576 by rw [hLlen]; exact HLN.out)
    have HW1B := Lib.hid HW1.out.size
    clear hLL hLlen hvf cHV0
    replace HV := Lib.hid (HV.out.below hB)
    replace HR := Lib.hid (HR.out.below hB)
    replace HU := Lib.hid (HU.out.grow hB)
    replace HT := Lib.hid (fun j hj => keep_below hB _ _ (HT.out j hj))
    replace HB := Lib.hid (HB.out.trans (hB.mono HB.out.size))
    replace HW1 := Lib.hid (HW1.out.trans (hB.mono HW1.out.size))
    clear hB
    go_wp2_with fail
    refine (vboxes_calls _ L _ HVF.out HLL2.out HBS.out).mono ?_
    rintro e W5 ⟨uq, rfl, huq, hB⟩
    have HQ := Lib.hid (show IsV W5 (fun b => (ok b ∧ b < w.heap.size) ∨ w.heap.size + 1 < b) uq (.boxes L) from huq.wide (fun b _ h => by
      have h1 := HW1.out.size
      have h2 := HW1B.out
      have h3 := HSZ.out
      rcases h with ⟨h | h, _⟩ | h
      · exact Or.inl h.1
      · exact Or.inr (by omega)
      · exact Or.inr (by omega)))
    have hsq := huq.store
    clear huq
    replace HV := Lib.hid (HV.out.below hB)
    replace HR := Lib.hid (HR.out.below hB)
    replace HU := Lib.hid (HU.out.grow hB)
    replace HT := Lib.hid (fun j hj => keep_below hB _ _ (HT.out j hj))
    replace HB := Lib.hid (HB.out.trans (hB.mono HB.out.size))
    replace HW1 := Lib.hid (HW1.out.trans (hB.mono HW1.out.size))
    clear hB
    have cHR0 := HR.out.2.1
    have zHR0 := HR.out.2.2 0
    go_wp2
    refine bodyPost_ret (v := .agg #[uq]) (by simp [results, Tryz.results40, go_sem, cHR0, World.cell?_setCell_same]) rfl ⟨uq, rfl, ?_, HB.out.setCell (Nat.le_succ _) _⟩
    rw [HSEL.out]
    exact HQ.out.keep (Kept.setCell _ _ _ (by simp)) (fun b _ h => h.imp id (fun h => by omega))
end Go.Proofs.YtbdhibcbpgjbmaaGreatDoor

/- Layer 19: what package hash tells. Written by tools/gen_haz.py. -/
namespace Go.Proofs.YtbdhibcbpgjbmaaGreatDoor
set_option maxRecDepth 100000
open Go.RowKit Fl
set_option linter.unusedVariables false

/-- A vector that the laws of layer 19 hand in. -/
def hG (A : VV) : Prop := gV 39 A ∧ (∀ z ∈ A.text, -2147483648 ≤ z ∧ z ≤ 2147483647)
/-- A vector whose elements have keys: in any kind that its numbers fit. -/
def hK (A : VV) : Prop := (A.ok ∧ A.nm) ∧ A.kind ≠ 0 ∧ (∀ a ∈ A.boxs, gA 39 a) ∧ (∀ z ∈ A.text, -2147483648 ≤ z ∧ z ≤ 2147483647)
theorem hG.key {A : VV} (h : hG A) : hK A := ⟨⟨h.1.1, h.1.2.1⟩, gV_kind h.1, h.1.2.2.2, h.2⟩
theorem hG.vec {A : VV} (h : hG A) : HV19 A := ⟨h.1.1, h.1.2.1, h.1.2.2.2⟩
noncomputable def hkF : PI → Nat := kH
theorem hkey_calls {ok : Nat → Prop} (u : Value) (A : VV) (i : Nat) (w : World) (h : IsV w ok u A) (hA : hK A) (hi : i < A.len) (hT : TabAt w) :
    Calls Tryz.prog 24 #[.agg #[u], .int .i64 (i : Int)] w fun e w' => e = .returned (.int .u64 (hkF (itA (plA 39) A i) : Int)) ∧ Below w.heap.size w w' :=
  hkey39 u A i w ⟨hA.1.1, hA.1.2, hA.2.2.1⟩ hi h
theorem hfind_calls {ok ok2 : Nat → Prop} (u u2 : Value) (A B : VV) (w : World) (h : IsV w ok u A) (hA : hG A) (h2 : IsV w ok2 u2 B) (hB : hG B) (hT : TabAt w) :
    Calls Tryz.prog 12 #[.agg #[u], .agg #[u2]] w fun e w' => ∃ v, e = .returned v ∧ Slc w' (fun b => w.heap.size ≤ b) v B.len (ints (zL ((itsA 39 B).map (fndI (itsA 39 A))))) ∧ Below w.heap.size w w' := hfind_of u u2 A B w h hA.vec h2 hB.vec
theorem hhas_calls {ok ok2 : Nat → Prop} (u u2 : Value) (A B : VV) (w : World) (h : IsV w ok u A) (hA : hG A) (h2 : IsV w ok2 u2 B) (hB : hG B) (hT : TabAt w) :
    Calls Tryz.prog 14 #[.agg #[u], .agg #[u2]] w fun e w' => ∃ v, e = .returned v ∧ Slc w' (fun b => w.heap.size ≤ b) v B.len (bools ((itsA 39 B).map (fun x => decide (fndI (itsA 39 A) x < A.len)))) ∧ Below w.heap.size w w' := hhas_of u u2 A B w h hA.vec h2 hB.vec
theorem hfirsts_calls {ok : Nat → Prop} (u : Value) (A : VV) (w : World) (h : IsV w ok u A) (hA : hG A) (hT : TabAt w) :
    Calls Tryz.prog 18 #[.agg #[u]] w fun e w' => ∃ v, e = .returned v ∧ Slc w' (fun b => w.heap.size ≤ b) v (frsL (itsA 39 A)).length (ints (zL (frsL (itsA 39 A)))) ∧ Below w.heap.size w w' := hfirsts_of u A w h hA.vec
theorem frsL_len19 (l : List PI) : (frsL l).length ≤ l.length := by
  have := fstL_len l l.length
  rw [fstL_all] at this
  exact this
set_option maxHeartbeats 8000000 in
theorem hunique_calls {ok : Nat → Prop} (u : Value) (A : VV) (w : World) (h : IsV w ok u A) (hA : hG A) (hT : TabAt w) :
    Calls Tryz.prog 20 #[.agg #[u]] w fun e w' => ∃ u', e = .returned (.agg #[u']) ∧ IsV w' (fun b => (ok b ∧ b < w.heap.size) ∨ w.heap.size ≤ b) u' (A.sel (zL (frsL (itsA 39 A)))) ∧ Below w.heap.size w w' := by
  have hsu := h.store
  obtain ⟨W1, hW1⟩ : ∃ W1, (w.alloc (.cells #[u] 36)).alloc (.cells #[.nilIface] 36) = W1 := ⟨_, rfl⟩
  have HV := Lib.hid (show At1 W1 w.heap.size u by rw [← hW1]; exact (At1.new _ _ _).below (below_new _ _))
  have HR := Lib.hid (show At1 W1 (w.heap.size + 1) .nilIface by rw [← hW1]; have := At1.new (w.alloc (.cells #[u] 36)) .nilIface 36; simpa using this)
  have HB := Lib.hid (show Below w.heap.size w W1 by rw [← hW1]; exact (below_new _ _).alloc (by simp) _)
  have HW1 := Lib.hid (Below.refl W1.heap.size W1)
  have HSZ := Lib.hid (show W1.heap.size = w.heap.size + 2 by rw [← hW1]; simp)
  have HU := Lib.hid (show IsV W1 (fun b => ok b ∧ b < w.heap.size) u A from h.lt.grow HB.out)
  have HT := Lib.hid (show TabAt W1 from fun j hj => keep_below HB.out _ _ (hT j hj))
  have HA := Lib.hid hA
  have HAL := Lib.hid (VV.ok_len hA.1.1)
  have HIL := Lib.hid (itsA_len 39 A)
  clear h hA hT
  go_enter Tryz.func20, Tryz.ntmps20
  go_wp2_with fail
  clear hW1
  obtain ⟨W11, hWD⟩ : ∃ xw9, W1.drew = xw9 := ⟨_, rfl⟩
  have hB : Below W1.heap.size W1 W11 := by rw [← hWD]; exact Below.drewN' (Below.refl _ _) 1
  replace HV := Lib.hid (HV.out.below hB)
  replace HR := Lib.hid (HR.out.below hB)
  replace HB := Lib.hid (HB.out.trans (hB.mono HB.out.size))
  replace HW1 := Lib.hid (HW1.out.trans (hB.mono HW1.out.size))
  replace HU := Lib.hid (HU.out.grow hB)
  replace HT := Lib.hid (fun j hj => keep_below hB _ _ (HT.out j hj))
  clear hB
  refine wp_region_held_drew (S := fun w' => w'.cell? ⟨w.heap.size, 0, none⟩ = some (u)) (by kernel_rfl) (by rw [hWD]; exact HV.out.2.1) (fun hHeld => ?_)
  rw [hWD] at hHeld ⊢
  clear hWD
  refine wpAnyH_take (i := 0) (v := ?_) rfl (by kernel_rfl) (by kernel_rfl) (by kernel_rfl) (fun _ _ _ h => h) (Or.inl ⟨by rfl, ?_⟩) (by assumption) ?_
  rotate_left
  · (intro w hSw; (try dsimp only at hSw); go_simp; try with_reducible rfl)
  simp only [Act.put, List.getElem_toArray, List.getElem_cons_zero, List.setIfInBounds_toArray, List.set_cons_zero, List.set_cons_succ]
  refine wpAnyH_take (i := 1) (v := ?_) rfl (by kernel_rfl) (by kernel_rfl) (by kernel_rfl) (fun _ _ _ h => h) (Or.inl ⟨by rfl, ?_⟩) (by assumption) ?_
  rotate_left
  · (intro w hSw; (try dsimp only at hSw); go_simp; try with_reducible rfl)
  simp only [Act.put, List.getElem_toArray, List.getElem_cons_succ, List.getElem_cons_zero, List.setIfInBounds_toArray, List.set_cons_zero, List.set_cons_succ]
  refine wpAnyH_ready (rs := [2]) (by kernel_rfl) (by simp) ?_
  refine AllReadyH.cons (o := _) rfl (fun K hK => ?_) AllReadyH.nil
  clear hHeld
  go_simp
  refine (hfirsts_calls _ A _ HU.out HA.out HT.out).mono ?_
  rintro e W12 ⟨vf, rfl, hvf, hB⟩
  replace HV := Lib.hid (HV.out.below hB)
  replace HR := Lib.hid (HR.out.below hB)
  replace HB := Lib.hid (HB.out.trans (hB.mono HB.out.size))
  replace HW1 := Lib.hid (HW1.out.trans (hB.mono HW1.out.size))
  replace HU := Lib.hid (HU.out.grow hB)
  replace HT := Lib.hid (fun j hj => keep_below hB _ _ (HT.out j hj))
  have HF := Lib.hid hvf
  clear hvf
  clear hB
  try go_simp
  refine hK.out _ _ ?_ (fun hHeld => ?_)
  · exact HV.out.2.1
  clear hK K
  refine wpAnyH_ready (rs := [3]) (by kernel_rfl) (by simp) ?_
  refine AllReadyH.cons (o := _) rfl (fun K hK => ?_) AllReadyH.nil
  clear hHeld
  go_simp
  have HW1B := Lib.hid HW1.out.size
  refine (hchosen_calls _ A _ (frsL (itsA 39 A)) _ HU.out ⟨HA.out.1.1, HA.out.1.2.1⟩ HF.out (by have h1 := frsL_len19 (itsA 39 A); have h2 := HAL.out; have h3 := HIL.out; omega) (fun x hx => by have h1 := frsL_lt x hx; have h3 := HIL.out; omega) HT.out).mono ?_
  rintro e W13 ⟨uq, rfl, huq, hB⟩
  replace HV := Lib.hid (HV.out.below hB)
  replace HR := Lib.hid (HR.out.below hB)
  replace HB := Lib.hid (HB.out.trans (hB.mono HB.out.size))
  replace HW1 := Lib.hid (HW1.out.trans (hB.mono HW1.out.size))
  replace HU := Lib.hid (HU.out.grow hB)
  replace HT := Lib.hid (fun j hj => keep_below hB _ _ (HT.out j hj))
  replace HF := Lib.hid (HF.out.below hB)
  obtain ⟨OKQ, hok⟩ : ∃ o : Nat → Prop, o = fun b => (ok b ∧ b < w.heap.size) ∨ w.heap.size + 1 < b := ⟨_, rfl⟩
  have HOQ := Lib.hid hok
  have HQ := Lib.hid (show IsV W13 OKQ uq (A.sel (zL (frsL (itsA 39 A)))) from huq.wide (fun b _ h => by
    have h1 := HW1B.out
    have h3 := HSZ.out
    rw [HOQ.out]
    rcases h with ⟨h, _⟩ | h
    · exact Or.inl h
    · exact Or.inr (by omega)))
  have hsq := huq.store
  clear huq hok
  clear hB
  have s0 := HR.out.2.1
  have t0 := HR.out.2.2 0
  try go_simp
  refine hK.out _ _ ?_ (fun hHeld => ?_)
  · exact HV.out.2.1
  clear hK K
  refine wpAnyH_ready (rs := [4]) (by kernel_rfl) (by simp) ?_
  refine AllReadyH.cons (o := _) rfl (fun K hK => ?_) AllReadyH.nil
  clear hHeld
  go_simp
  clear s0 t0
  obtain ⟨W70, hWn⟩ : ∃ xw9, W13.setCell ⟨w.heap.size + 1, 0, none⟩ uq = xw9 := ⟨_, rfl⟩
  rw [hWn]
  replace HR := Lib.hid (show At1 W70 (w.heap.size + 1) uq by rw [← hWn]; exact At1.put1 HR.out _)
  replace HB := Lib.hid (show Below w.heap.size w W70 by rw [← hWn]; exact HB.out.setCell (Nat.le_add_right _ _) _)
  replace HQ := Lib.hid (show IsV W70 OKQ uq (A.sel (zL (frsL (itsA 39 A)))) by rw [← hWn]; exact HQ.out.keep (Kept.setCell _ _ _ (by rw [HOQ.out]; simp)) (fun _ _ h => h))
  replace HV := Lib.hid (show At1 W70 w.heap.size u by rw [← hWn]; exact HV.out.grown (grown_setCell _ ⟨w.heap.size + 1, 0, none⟩ _) (by simp))
  clear hWn
  try go_simp
  refine hK.out _ _ ?_ (fun hHeld => ?_)
  · exact HV.out.2.1
  clear hK K
  refine wpAnyH_done (by kernel_rfl) ?_ _
  clear hHeld
  have cHR0 := HR.out.2.1
  go_wp2
  refine bodyPost_ret (v := .agg #[uq]) (by simp [results, Tryz.results20, go_sem, cHR0]) rfl ⟨uq, rfl, ?_, HB.out⟩
  have := HQ.out
  rw [HOQ.out] at this
  exact this.wide (fun b _ h => h.imp id (fun h => by omega))
set_option maxHeartbeats 8000000 in
theorem hwithout_calls {ok ok2 : Nat → Prop} (u u2 : Value) (A B : VV) (keep : Bool) (w : World) (h : IsV w ok u A) (hA : hG A) (h2 : IsV w ok2 u2 B) (hB : hG B) (hT : TabAt w) :
    Calls Tryz.prog 21 #[.agg #[u], .agg #[u2], .bool keep] w fun e w' => ∃ u', e = .returned (.agg #[u']) ∧ IsV w' (fun b => (ok b ∧ b < w.heap.size) ∨ w.heap.size ≤ b) u' (A.sel (zL (witP (itsA 39 A) (itsA 39 B) keep))) ∧ Below w.heap.size w w' := by
  obtain ⟨i0, hi, hz0, hz1, hz2⟩ := info_parts info_int2
  have HI0 := Lib.hid (And.intro hi (And.intro hz0 (And.intro hz1 hz2)))
  have hsu := h.store
  have hsu2 := h2.store
  obtain ⟨W1, hW1⟩ : ∃ W1, ((w.alloc (.cells #[u] 36)).alloc (.cells #[u2] 36)).alloc (.cells #[.nilIface] 36) = W1 := ⟨_, rfl⟩
  have hb1 : Below w.heap.size w (w.alloc (.cells #[u] 36)) := below_new _ _
  have hb2 : Below w.heap.size w ((w.alloc (.cells #[u] 36)).alloc (.cells #[u2] 36)) := hb1.alloc (by simp) _
  have HV := Lib.hid (show At1 W1 w.heap.size u by rw [← hW1]; exact ((At1.new _ _ _).below (below_new _ _)).below (below_new _ _))
  have HV2 := Lib.hid (show At1 W1 (w.heap.size + 1) u2 by rw [← hW1]; have := (At1.new (w.alloc (.cells #[u] 36)) u2 36).below (below_new _ (.cells #[.nilIface] 36)); simpa using this)
  have HR := Lib.hid (show At1 W1 (w.heap.size + 1 + 1) .nilIface by rw [← hW1]; have := At1.new ((w.alloc (.cells #[u] 36)).alloc (.cells #[u2] 36)) .nilIface 36; simpa using this)
  have HB := Lib.hid (show Below w.heap.size w W1 by rw [← hW1]; exact hb2.alloc (by simp; omega) _)
  have HSZ := Lib.hid (show W1.heap.size = w.heap.size + 3 by rw [← hW1]; simp)
  have HU := Lib.hid (show IsV W1 (fun b => ok b ∧ b < w.heap.size) u A from h.lt.grow HB.out)
  have HU2 := Lib.hid (h2.grow HB.out)
  have HT := Lib.hid (show TabAt W1 from fun j hj => keep_below HB.out _ _ (hT j hj))
  have HA := Lib.hid hA
  have HBG := Lib.hid hB
  obtain ⟨n, hn⟩ : ∃ n, A.len = n := ⟨_, rfl⟩
  have HN := Lib.hid hn
  have HNM := Lib.hid (show n ≤ 1048576 by rw [← hn]; exact VV.ok_len hA.1.1)
  obtain ⟨bl, hbl⟩ : ∃ bl, (itsA 39 A).map (fun x => decide (fndI (itsA 39 B) x < B.len)) = bl := ⟨_, rfl⟩
  have HBL := Lib.hid hbl
  have HBN := Lib.hid (show bl.length = n by rw [← hbl, List.length_map, itsA_len, hn])
  obtain ⟨F, hF⟩ : ∃ F : Nat → List Nat, ∀ k, F k = (List.range k).filter (fun (i : Nat) => decide (fndI (itsA 39 B) (atI (itsA 39 A) (blankI 0) (i : Int)) < (itsA 39 B).length) == keep) := ⟨_, fun _ => rfl⟩
  have HF0 := Lib.hid (show F 0 = [] by rw [hF]; rfl)
  have HFN := Lib.hid (show F n = witP (itsA 39 A) (itsA 39 B) keep by rw [hF, ← hn, ← itsA_len 39 A]; rfl)
  have HFL := Lib.hid (show ∀ k, (F k).length ≤ k from fun k => by
    rw [hF]
    have := List.length_filter_le (fun (i : Nat) => decide (fndI (itsA 39 B) (atI (itsA 39 A) (blankI 0) (i : Int)) < (itsA 39 B).length) == keep) (List.range k)
    rwa [List.length_range] at this)
  have HFS := Lib.hid (show ∀ k b, bl[k]? = some b → F (k + 1) = F k ++ (if b == keep then [k] else []) from fun k b hb => by
    rw [hF, hF, filter_range_snoc]
    have hk : k < A.len := by
      have := (List.getElem?_eq_some_iff.1 hb).1
      rw [← hbl, List.length_map, itsA_len] at this
      exact this
    rw [← hbl, List.getElem?_map] at hb
    rw [itsA_at hk] at hb
    have e : decide (fndI (itsA 39 B) (atI (itsA 39 A) (blankI 0) (k : Int)) < (itsA 39 B).length) = b := by
      rw [itH_at hk, itsA_len]; exact Option.some.inj hb
    rw [e])
  have cHV0 := HV.out.2.1
  have cHV20 := HV2.out.2.1
  have cHR0 := HR.out.2.1
  have zHR0 := HR.out.2.2 0
  clear h hA h2 hB hT hn hbl hF hi hz0 hz1 hz2 hb1 hb2
  go_enter Tryz.func21, Tryz.ntmps21
  go_wp2_with fail
  clear hW1
  refine (hhas_calls _ _ B A _ HU2.out HBG.out HU.out HA.out HT.out).mono ?_
  rintro e W2 ⟨v, rfl, hv, hB⟩
  rw [HBL.out, HN.out] at hv
  have HH := Lib.hid hv
  obtain ⟨ho, hc, rfl, _⟩ := hv.opened
  clear cHV0 cHV20 cHR0 zHR0 hv
  have HZ := Lib.hid hB.size
  replace HV := Lib.hid (HV.out.below hB)
  replace HR := Lib.hid (HR.out.below hB)
  replace HU := Lib.hid (HU.out.grow hB)
  replace HT := Lib.hid (fun j hj => keep_below hB _ _ (HT.out j hj))
  replace HB := Lib.hid (HB.out.trans (hB.mono HB.out.size))
  clear hB
  go_wp2_with fail
  go_loopw [7, 14] (fun ov iv wr => ∃ k : Nat, k ≤ n ∧ iv = .int .i64 k ∧ wr.ownsRow W2.heap.size 3 1 ov (F k).length (ints (zL (F k))) ∧ Below W2.heap.size W2 wr) (fun _ iv _ => n - (intOf iv).toNat)
  case atStart => exact ⟨0, by omega, rfl, by rw [HF0.out]; exact World.ownsRow_nil _ _ _ _, Below.refl _ _⟩
  case round =>
    obtain ⟨k, hk, rfl, hown, hBq⟩ := hrel
    obtain ⟨vo, vc, rfl⟩ := owns_form hown
    have HO := Lib.hid hown
    have HBQ := Lib.hid hBq
    clear hown hBq
    by_cases hlt : k < n
    · have hn9 := HNM.out
      obtain ⟨b, off, cap2, z, e9, hz, hcx⟩ := Slc.at_map Value.bool (l := bl) (by rw [HBN.out]; exact HH.out.below HBQ.out) k (by rw [HBN.out]; exact hlt)
      rw [HBN.out] at e9
      cases e9
      have HSN := Lib.hid (HFS.out k z hz)
      obtain ⟨c, hc⟩ : ∃ c, (F k).length = c := ⟨_, rfl⟩
      have HC := Lib.hid hc
      have HCK := Lib.hid (show c ≤ k by rw [← hc]; exact HFL.out k)
      rw [hc] at HO ⊢
      clear hc hz
      by_cases hzk : z = keep
      · subst hzk
        have hme : (z == z) = true := by simp
        rw [hme, if_pos rfl] at HSN
        obtain ⟨W4, hW4⟩ : ∃ W4, W4 = wr.alloc (.cells #[.int .i64 (k : Int)] 3) := ⟨_, rfl⟩
        have HB4 := Lib.hid (show Below W2.heap.size W2 W4 by rw [hW4]; exact HBQ.out.alloc HBQ.out.size _)
        have HO4 := Lib.hid (show W4.ownsRow W2.heap.size 3 1 (.slice vo c vc) c (ints (zL (F k))) by rw [hW4]; exact HO.out.alloc _)
        have HN4 := Lib.hid (show ∀ j u, ([.int .i64 (k : Int)] : List Value)[j]? = some u → W4.cell? ((⟨wr.heap.size, 0, none⟩ : Addr).add j) = some u by rw [hW4]; exact cell_one_new _ _ _)
        have HSZ4 := Lib.hid HB4.out.size
        have HM1 := Lib.hid (show c + 1 ≤ maxLen by have := HCK.out; unfold maxLen; omega)
        have HM2 := Lib.hid (show (c + 1) * 8 ≤ 140737488355328 by have := HCK.out; omega)
        have hfold4 := hW4.symm
        clear hW4
        go_wp2_with (at_builtin; refine wpList_append_own _ rfl _ _ 22 rfl W2.heap.size 3 i0 (.int .i64 0) 1 8 Tryz.underlying22 HI0.out.1 HI0.out.2.1 HI0.out.2.2.1 HI0.out.2.2.2 rfl (by decide) _ _ _ rfl HO4.out ⟨wr.heap.size, 0, none⟩ 1 1 [.int .i64 (k : Int)] rfl rfl HN4.out (one_intV _) HM1.out HM2.out HSZ4.out ?_)
        intro v' w1 hown' hgrow _
        have HO1 := Lib.hid hown'
        have HB1 := Lib.hid (grown_below HB4.out HO4.out (Nat.le_refl _) HSZ4.out hgrow)
        clear hown' hgrow hfold4
        go_wp2
        go_roundw
        case rel =>
          refine ⟨k + 1, by omega, by go_num, ?_, HB1.out⟩
          rw [HSN.out, List.length_append, HC.out, zL_app19, ints_append2]
          exact HO1.out
        case measure => simp [intOf]; omega
      · have hme : (z == keep) = false := by simpa using hzk
        rw [hme] at HSN
        have HS2 := Lib.hid (show F (k + 1) = F k by rw [HSN.out]; simp)
        clear HSN hzk
        go_wp2
        go_roundw
        case rel =>
          refine ⟨k + 1, by omega, by go_num, ?_, HBQ.out⟩
          rw [HS2.out, HC.out]
          exact HO.out
        case measure => simp [intOf]; omega
    · have hkn : k = n := by omega
      have HWL := Lib.hid (show Slc wr (fun b => W2.heap.size ≤ b) (.slice vo (F k).length vc) (witP (itsA 39 A) (itsA 39 B) keep).length (ints (zL (witP (itsA 39 A) (itsA 39 B) keep))) by
        rw [hkn, HFN.out] at HO ⊢
        exact Slc.owned HO.out)
      have HLL := Lib.hid (show (witP (itsA 39 A) (itsA 39 B) keep).length ≤ 1048576 by rw [← HFN.out]; exact Nat.le_trans (HFL.out n) HNM.out)
      have HLT := Lib.hid (show ∀ x ∈ witP (itsA 39 A) (itsA 39 B) keep, x < A.len from fun x hx => by have := witP_lt x hx; rwa [itsA_len] at this)
      obtain ⟨R, hR⟩ : ∃ R, witP (itsA 39 A) (itsA 39 B) keep = R := ⟨_, rfl⟩
      rw [hR] at HWL HLL HLT
      have HRR := Lib.hid hR
      clear hkn HO hR
      replace HV := Lib.hid (HV.out.below HBQ.out)
      replace HR := Lib.hid (HR.out.below HBQ.out)
      replace HU := Lib.hid (HU.out.grow HBQ.out)
      replace HT := Lib.hid (fun j hj => keep_below HBQ.out _ _ (HT.out j hj))
      replace HB := Lib.hid (HB.out.trans (HBQ.out.mono HB.out.size))
      have HZ3 := Lib.hid (show w.heap.size + 3 ≤ wr.heap.size by have h1 := HZ.out; have h2 := HSZ.out; have h3 := HBQ.out.size; omega)
      have cHV0 := HV.out.2.1
      go_wp2_with fail
      refine (hchosen_calls _ A _ R _ HU.out ⟨HA.out.1.1, HA.out.1.2.1⟩ HWL.out HLL.out HLT.out HT.out).mono ?_
      rintro e W5 ⟨uq, rfl, huq, hB⟩
      have hsq := huq.store
      obtain ⟨OKQ, hok⟩ : ∃ o : Nat → Prop, o = fun b => (ok b ∧ b < w.heap.size) ∨ w.heap.size + 1 + 1 < b := ⟨_, rfl⟩
      have HOQ := Lib.hid hok
      have HQ := Lib.hid (show IsV W5 OKQ uq (A.sel (zL R)) from huq.wide (fun b _ h => by
        have h1 := HZ3.out
        rw [HOQ.out]
        rcases h with ⟨h, _⟩ | h
        · exact Or.inl h
        · exact Or.inr (by omega)))
      clear huq hok cHV0
      replace HR := Lib.hid (HR.out.below hB)
      replace HB := Lib.hid (HB.out.trans (hB.mono HB.out.size))
      clear hB
      have cHR0 := HR.out.2.1
      have zHR0 := HR.out.2.2 0
      go_wp2
      refine bodyPost_ret (v := .agg #[uq]) (by simp [results, Tryz.results21, go_sem, cHR0, World.cell?_setCell_same]) rfl ⟨uq, rfl, ?_, HB.out.setCell (show w.heap.size ≤ w.heap.size + 1 + 1 by omega) _⟩
      rw [HRR.out]
      have := HQ.out.keep (ok' := OKQ) (Kept.setCell _ ⟨w.heap.size + 1 + 1, 0, none⟩ uq (by rw [HOQ.out]; simp; intro _; omega)) (fun _ _ h => h)
      exact this.wide (fun b _ h => by rw [HOQ.out] at h; exact h.imp id (fun h => by omega))
end Go.Proofs.YtbdhibcbpgjbmaaGreatDoor

/- Layer 19's laws, their parts: good, shows. -/
namespace Go.Proofs.YtbdhibcbpgjbmaaGreatDoor
set_option maxRecDepth 100000
open Go.RowKit Fl
set_option linter.unusedVariables false

def GoodIs19 (p : PA) (w : World) (e : Ending) (w' : World) : Prop := ∃ g : Bool, e = .returned (.bool g) ∧ (g = true → chk 40 p = 0 ∧ p.l.length ≤ 200) ∧ Below w.heap.size w w'
set_option maxHeartbeats 4000000 in
theorem good19_calls (ok : Nat → Prop) (p : PA) (u : Value) (n : Nat) (w : World) (hl : lo n p) (hp : IsP w ok u p) :
    Calls Tryz.prog 6 #[u] w (GoodIs19 p w) := by
  have HP := Lib.hid hp
  have HL := Lib.hid hl
  obtain ⟨so, sc, io, ic, rfl, hs, hit⟩ := hp.opened
  obtain ⟨W1, hW1⟩ : ∃ W1, W1 = w.alloc (.cells #[.slice so p.s.length sc, .slice io p.l.length ic, .int .i64 p.f] 25) := ⟨_, rfl⟩
  have HB := Lib.hid (show Below w.heap.size w W1 by rw [hW1]; exact below_new _ _)
  have HA := Lib.hid (show At3 W1 w.heap.size (.slice so p.s.length sc) (.slice io p.l.length ic) (.int .i64 p.f) by rw [hW1]; exact At3.new w _ _ _ _)
  have HI := Lib.hid (show IsP W1 ok _ p from HP.out.grow HB.out)
  have hfold := hW1.symm
  obtain ⟨cc, hcc⟩ : ∃ cc, cc = chk 40 p := ⟨_, rfl⟩
  have HCC := Lib.hid hcc
  clear hs hit hp hl hW1 hcc
  have cHA0 := HA.out.2.1
  have cHA1 := HA.out.2.2.1
  have cHA2 := HA.out.2.2.2.1
  go_enter Tryz.func6, Tryz.ntmps6
  go_wp2_with fail
  clear hfold
  refine (pcount_calls n _ p _ _ _ HL.out HI.out).mono ?_
  rintro e W11 ⟨cn, rfl, hB⟩
  clear cHA0 cHA1 cHA2
  replace HA := Lib.hid (HA.out.below hB)
  replace HB := Lib.hid (HB.out.trans (hB.mono HB.out.size))
  replace HI := Lib.hid (HI.out.grow hB)
  clear hB
  have cHA0 := HA.out.2.1
  have cHA1 := HA.out.2.2.1
  have cHA2 := HA.out.2.2.2.1
  by_cases hcn : cn ≤ 1500
  · by_cases hln : p.l.length ≤ 200
    · have hli : (p.l.length : Int) ≤ 200 := by omega
      have HLN := Lib.hid hln
      go_wp2_with fail
      refine (vCheck_calls _ p _ n _ HL.out HI.out).mono ?_
      rintro e W12 ⟨rfl, hB⟩
      clear cHA0 cHA1 cHA2
      replace HA := Lib.hid (HA.out.below hB)
      replace HB := Lib.hid (HB.out.trans (hB.mono HB.out.size))
      replace HI := Lib.hid (HI.out.grow hB)
      rw [← HCC.out]
      clear hB
      have cHA0 := HA.out.2.1
      have cHA1 := HA.out.2.2.1
      have cHA2 := HA.out.2.2.2.1
      by_cases hc0 : cc = 0
      · have HC0 := Lib.hid hc0
        have hce : (cc == 0) = true := by simpa using hc0
        clear hc0
        go_wp2_with fail
        go_ret
        exact ⟨true, rfl, (fun h => by exact ⟨HCC.out ▸ HC0.out, HLN.out⟩), HB.out⟩
      · have HC0 := Lib.hid hc0
        have hce : (cc == 0) = false := by simpa using hc0
        clear hc0
        go_wp2_with fail
        go_ret
        exact ⟨false, rfl, (fun h => by cases h), HB.out⟩
    · have hli : ¬ ((p.l.length : Int) ≤ 200) := by omega
      go_wp2_with fail
      go_ret
      exact ⟨false, rfl, (fun h => by cases h), HB.out⟩
  · go_wp2_with fail
    go_ret
    exact ⟨false, rfl, (fun h => by cases h), HB.out⟩

set_option maxHeartbeats 4000000 in
theorem shows19_calls {ok ok2 : Nat → Prop} (u : Value) (V : VV) (lv : Value) (l : List PI) (c : Int) (w : World) (hu : IsV w ok u V) (hV : gV 39 V) (hc : V.cls = c) (hl : Its w ok2 lv l) (he : l = itsA 39 V) (hT : TabAt w) :
    Calls Tryz.prog 19 #[.agg #[u], lv, .int .i64 c] w (BoolIs true w) := by
  obtain ⟨ao, cap, rfl, _, _⟩ := hl.len
  have hsu := hu.store
  obtain ⟨W1, hW1⟩ : ∃ W1, W1 = w.alloc (.cells #[u] 36) := ⟨_, rfl⟩
  have HB := Lib.hid (show Below w.heap.size w W1 by rw [hW1]; exact below_new _ _)
  have HA := Lib.hid (show At1 W1 w.heap.size u by rw [hW1]; exact At1.new w _ _)
  have HU := Lib.hid (show IsV W1 (fun _ => True) u V from (hu.grow HB.out).any)
  have HL := Lib.hid (show Its W1 (fun _ => True) (.slice ao l.length cap) l from (hl.grow HB.out).wide (fun _ _ _ => trivial))
  have HT := Lib.hid (show TabAt W1 from fun j hj => keep_below HB.out _ _ (hT j hj))
  have HV := Lib.hid hV
  have HC := Lib.hid hc
  have HE := Lib.hid he
  obtain ⟨kd, hkd⟩ : ∃ kd, kd = V.kind := ⟨_, rfl⟩
  have HKD := Lib.hid hkd
  have hkz : 0 < kd := by
    have h1 := gV_kind HV.out
    have h2 : 0 ≤ V.kind := by cases V <;> simp [VV.kind]
    rw [← hkd] at h1 h2; omega
  have HDT := Lib.hid (show decide (V.kind = (V.least : Int)) = true from decide_eq_true hV.2.2.1)
  have HPL := Lib.hid (show plA 40 ([(V.len : Int)], V) = .mk [(l.length : Int)] l c by rw [show (40 : Nat) = 39 + 1 from rfl, plA_list, ← he, hc])
  have HGA := Lib.hid (gV_gA HV.out)
  have HNI := Lib.hid (show nice 40 (.mk [(l.length : Int)] l c) by rw [← HPL.out]; exact nice_plA 40 _ HGA.out)
  have hfold := hW1.symm
  clear hu hl hT hV hc he hW1 hkd
  have cHA0 := HA.out.2.1
  go_enter Tryz.func19, Tryz.ntmps19
  go_wp2_with fail
  clear hfold
  clear cHA0
  obtain ⟨W11, hWD⟩ : ∃ xw9, W1.drew = xw9 := ⟨_, rfl⟩
  have hB : Below W1.heap.size W1 W11 := by rw [← hWD]; exact Below.drewN' (Below.refl _ _) 1
  replace HA := Lib.hid (HA.out.below hB)
  replace HB := Lib.hid (HB.out.trans (hB.mono HB.out.size))
  replace HU := Lib.hid (HU.out.grow hB)
  replace HL := Lib.hid (HL.out.grow hB)
  replace HT := Lib.hid (fun j hj => keep_below hB _ _ (HT.out j hj))
  clear hB
  refine wp_region_held_drew (S := fun w' => w'.cell? ⟨w.heap.size, 0, none⟩ = some (u)) (by kernel_rfl) (by rw [hWD]; exact HA.out.2.1) (fun hHeld => ?_)
  rw [hWD] at hHeld ⊢
  clear hWD
  refine wpAnyH_take (i := 0) (v := ?_) rfl (by kernel_rfl) (by kernel_rfl) (by kernel_rfl) (fun _ _ _ h => h) (Or.inl ⟨by rfl, ?_⟩) (by assumption) ?_
  rotate_left
  · (intro w hSw; (try dsimp only at hSw); go_simp; try with_reducible rfl)
  simp only [Act.put, List.getElem_toArray, List.getElem_cons_zero, List.setIfInBounds_toArray, List.set_cons_zero, List.set_cons_succ]
  refine wpAnyH_ready (rs := [1]) (by kernel_rfl) (by simp) ?_
  refine AllReadyH.cons (o := _) rfl (fun K hK => ?_) ?_
  · clear hHeld
    go_simp
    refine (kind_calls _ V _ HU.out).mono ?_
    rintro e W12 ⟨rfl, hB⟩
    replace HA := Lib.hid (HA.out.below hB)
    replace HB := Lib.hid (HB.out.trans (hB.mono HB.out.size))
    replace HU := Lib.hid (HU.out.grow hB)
    replace HL := Lib.hid (HL.out.grow hB)
    replace HT := Lib.hid (fun j hj => keep_below hB _ _ (HT.out j hj))
    rw [← HKD.out]
    clear hB
    refine hK.out _ _ ?_ (fun hHeld => ?_)
    · exact HA.out.2.1
    clear hK K
    refine wpAnyH_take (i := 2) (v := ?_) rfl (by kernel_rfl) (by kernel_rfl) (by kernel_rfl) (fun _ _ _ h => h) (Or.inl ⟨by rfl, ?_⟩) (by assumption) ?_
    rotate_left
    · (intro w hSw; (try dsimp only at hSw); go_simp; try with_reducible rfl)
    simp only [Act.put, List.getElem_toArray, List.getElem_cons_succ, List.getElem_cons_zero, List.setIfInBounds_toArray, List.set_cons_zero, List.set_cons_succ]
    refine wpAnyH_take (i := 3) (v := ?_) rfl (by kernel_rfl) (by kernel_rfl) (by kernel_rfl) (fun _ _ _ h => h) (Or.inl ⟨by rfl, ?_⟩) (by assumption) ?_
    rotate_left
    · (intro w hSw; (try dsimp only at hSw); go_simp; try with_reducible rfl)
    simp only [Act.put, List.getElem_toArray, List.getElem_cons_succ, List.getElem_cons_zero, List.setIfInBounds_toArray, List.set_cons_zero, List.set_cons_succ]
    refine wpAnyH_take (i := 4) (v := ?_) rfl (by kernel_rfl) (by kernel_rfl) (by kernel_rfl) (fun _ _ _ h => h) (Or.inl ⟨by rfl, ?_⟩) (by assumption) ?_
    rotate_left
    · (intro w hSw; (try dsimp only at hSw); go_simp; try with_reducible rfl)
    simp only [Act.put, List.getElem_toArray, List.getElem_cons_succ, List.getElem_cons_zero, List.setIfInBounds_toArray, List.set_cons_zero, List.set_cons_succ]
    refine wpAnyH_ready (rs := [5]) (by kernel_rfl) (by simp) ?_
    refine AllReadyH.cons (o := _) rfl (fun K hK => ?_) ?_
    · clear hHeld
      go_simp
      refine (tight_calls _ V _ HU.out HV.out.1 HV.out.2.1 HT.out).mono ?_
      rintro e W13 ⟨rfl, hB⟩
      replace HA := Lib.hid (HA.out.below hB)
      replace HB := Lib.hid (HB.out.trans (hB.mono HB.out.size))
      replace HU := Lib.hid (HU.out.grow hB)
      replace HL := Lib.hid (HL.out.grow hB)
      replace HT := Lib.hid (fun j hj => keep_below hB _ _ (HT.out j hj))
      rw [HDT.out]
      clear hB
      refine hK.out _ _ ?_ (fun hHeld => ?_)
      · exact HA.out.2.1
      clear hK K
      refine wpAnyH_take (i := 6) (v := ?_) rfl (by kernel_rfl) (by kernel_rfl) (by kernel_rfl) (fun _ _ _ h => h) (Or.inl ⟨by rfl, ?_⟩) (by assumption) ?_
      rotate_left
      · (intro w hSw; (try dsimp only at hSw); go_simp; try with_reducible rfl)
      simp only [Act.put, List.getElem_toArray, List.getElem_cons_succ, List.getElem_cons_zero, List.setIfInBounds_toArray, List.set_cons_zero, List.set_cons_succ]
      refine wpAnyH_take (i := 7) (v := ?_) rfl (by kernel_rfl) (by kernel_rfl) (by kernel_rfl) (fun _ _ _ h => h) (Or.inl ⟨by rfl, ?_⟩) (by assumption) ?_
      rotate_left
      · (intro w hSw; (try dsimp only at hSw); go_simp; try with_reducible rfl)
      simp only [Act.put, List.getElem_toArray, List.getElem_cons_succ, List.getElem_cons_zero, List.setIfInBounds_toArray, List.set_cons_zero, List.set_cons_succ]
      refine wpAnyH_take (i := 8) (v := ?_) rfl (by kernel_rfl) (by kernel_rfl) (by kernel_rfl) (fun _ _ _ h => h) (Or.inl ⟨by rfl, ?_⟩) (by assumption) ?_
      rotate_left
      · (intro w hSw; (try dsimp only at hSw); go_simp; try with_reducible rfl)
      simp only [Act.put, List.getElem_toArray, List.getElem_cons_succ, List.getElem_cons_zero, List.setIfInBounds_toArray, List.set_cons_zero, List.set_cons_succ]
      refine wpAnyH_take (i := 11) (v := ?_) rfl (by kernel_rfl) (by kernel_rfl) (by kernel_rfl) (fun _ _ _ h => h) (Or.inl ⟨by rfl, ?_⟩) (by assumption) ?_
      rotate_left
      · (intro w hSw; (try dsimp only at hSw); go_simp; try with_reducible rfl)
      simp only [Act.put, List.getElem_toArray, List.getElem_cons_succ, List.getElem_cons_zero, List.setIfInBounds_toArray, List.set_cons_zero, List.set_cons_succ]
      refine wpAnyH_take (i := 14) (v := ?_) rfl (by kernel_rfl) (by kernel_rfl) (by kernel_rfl) (fun _ _ _ h => h) (Or.inl ⟨by rfl, ?_⟩) (by assumption) ?_
      rotate_left
      · (intro w hSw; (try dsimp only at hSw); go_simp; try with_reducible rfl)
      simp only [Act.put, List.getElem_toArray, List.getElem_cons_succ, List.getElem_cons_zero, List.setIfInBounds_toArray, List.set_cons_zero, List.set_cons_succ]
      refine wpAnyH_take (i := 15) (v := ?_) rfl (by kernel_rfl) (by kernel_rfl) (by kernel_rfl) (fun _ _ _ h => h) (Or.inl ⟨by rfl, ?_⟩) (by assumption) ?_
      rotate_left
      · (intro w hSw; (try dsimp only at hSw); go_simp; try with_reducible rfl)
      simp only [Act.put, List.getElem_toArray, List.getElem_cons_succ, List.getElem_cons_zero, List.setIfInBounds_toArray, List.set_cons_zero, List.set_cons_succ]
      refine wpAnyH_ready (rs := [9]) (by kernel_rfl) (by simp) ?_
      refine AllReadyH.cons (o := _) rfl (fun K hK => ?_) ?_
      · clear hHeld
        go_simp
        refine (vlen_calls _ V _ HU.out).mono ?_
        rintro e W14 ⟨rfl, hB⟩
        replace HA := Lib.hid (HA.out.below hB)
        replace HB := Lib.hid (HB.out.trans (hB.mono HB.out.size))
        replace HU := Lib.hid (HU.out.grow hB)
        replace HL := Lib.hid (HL.out.grow hB)
        replace HT := Lib.hid (fun j hj => keep_below hB _ _ (HT.out j hj))
        clear hB
        refine hK.out _ _ ?_ (fun hHeld => ?_)
        · exact HA.out.2.1
        clear hK K
        refine wpAnyH_ready (rs := [10]) (by kernel_rfl) (by simp) ?_
        refine AllReadyH.cons (o := _) rfl (fun K hK => ?_) ?_
        · clear hHeld
          go_simp
          obtain ⟨W15, hWn⟩ : ∃ xw9, W14.alloc (.cells #[.int .i64 (V.len : Int)] 3) = xw9 := ⟨_, rfl⟩
          have hB : Below W14.heap.size W14 W15 := by rw [← hWn]; exact below_new _ _
          have hNB : Slc W15 (fun _ => True) (.slice (some ⟨W14.heap.size, 0, none⟩) 1 1) 1 (ints [(V.len : Int)]) := by
            rw [← hWn]; exact (Slc.owned (World.ownsRow_lit (base := 0) (e := 3) (size := 1) W14 #[.int .i64 (V.len : Int)] 1 (Nat.zero_le _) (by unfold maxLen; omega) rfl)).keep (Kept.refl _ _) (fun _ _ _ => trivial)
          rw [hWn]
          clear hWn
          obtain ⟨bl, hnm⟩ : ∃ x, W14.heap.size = x := ⟨_, rfl⟩
          rw [hnm] at hNB ⊢
          replace HA := Lib.hid (HA.out.below hB)
          replace HB := Lib.hid (HB.out.trans (hB.mono HB.out.size))
          replace HU := Lib.hid (HU.out.grow hB)
          replace HL := Lib.hid (HL.out.grow hB)
          replace HT := Lib.hid (fun j hj => keep_below hB _ _ (HT.out j hj))
          have HSL := Lib.hid hNB
          clear hNB hB hnm
          refine hK.out _ _ ?_ (fun hHeld => ?_)
          · exact HA.out.2.1
          clear hK K
          refine wpAnyH_take (i := 12) (v := ?_) rfl (by kernel_rfl) (by kernel_rfl) (by kernel_rfl) (fun _ _ _ h => h) (Or.inl ⟨by rfl, ?_⟩) (by assumption) ?_
          rotate_left
          · (intro w hSw; (try dsimp only at hSw); go_simp; try with_reducible rfl)
          simp only [Act.put, List.getElem_toArray, List.getElem_cons_succ, List.getElem_cons_zero, List.setIfInBounds_toArray, List.set_cons_zero, List.set_cons_succ]
          refine wpAnyH_ready (rs := [13]) (by kernel_rfl) (by simp) ?_
          refine AllReadyH.cons (o := _) rfl (fun K hK => ?_) ?_
          · clear hHeld
            go_simp
            refine (plain_calls_at 40 (fun _ => True) ([(V.len : Int)], V) _ _ _ (gA_dA HGA.out) ⟨HSL.out, HU.out.wide (fun _ _ _ => trivial)⟩).mono ?_
            rintro e W16 ⟨up, rfl, hup, hB⟩
            replace HA := Lib.hid (HA.out.below hB)
            replace HB := Lib.hid (HB.out.trans (hB.mono HB.out.size))
            replace HU := Lib.hid (HU.out.grow hB)
            replace HL := Lib.hid (HL.out.grow hB)
            replace HT := Lib.hid (fun j hj => keep_below hB _ _ (HT.out j hj))
            replace HSL := Lib.hid (HSL.out.below hB)
            rw [HPL.out] at hup
            have HUP := Lib.hid hup
            obtain ⟨uso, usc, uio, uic, rfl, _⟩ := hup.opened
            clear hup
            clear hB
            refine hK.out _ _ ?_ (fun hHeld => ?_)
            · exact HA.out.2.1
            clear hK K
            refine wpAnyH_ready (rs := [16]) (by kernel_rfl) (by simp) ?_
            refine AllReadyH.cons (o := _) rfl (fun K hK => ?_) ?_
            · clear hHeld
              go_simp
              refine (rlist_calls _ l c _ HL.out).mono ?_
              rintro e W17 ⟨uq, rfl, huq, hB⟩
              replace HA := Lib.hid (HA.out.below hB)
              replace HB := Lib.hid (HB.out.trans (hB.mono HB.out.size))
              replace HU := Lib.hid (HU.out.grow hB)
              replace HL := Lib.hid (HL.out.grow hB)
              replace HT := Lib.hid (fun j hj => keep_below hB _ _ (HT.out j hj))
              replace HSL := Lib.hid (HSL.out.below hB)
              replace HUP := Lib.hid (HUP.out.grow hB)
              have HUQ := Lib.hid huq
              obtain ⟨qso, qsc, qio, qic, rfl, _⟩ := huq.opened
              clear huq
              clear hB
              refine hK.out _ _ ?_ (fun hHeld => ?_)
              · exact HA.out.2.1
              clear hK K
              refine wpAnyH_ready (rs := [17]) (by kernel_rfl) (by simp) ?_
              refine AllReadyH.cons (o := _) rfl (fun K hK => ?_) ?_
              · clear hHeld
                go_simp
                refine (psame_calls 40 _ _ (.mk [(l.length : Int)] l c) (.mk [(l.length : Int)] l c) _ _ 40 _ HNI.out HNI.out HUP.out HUQ.out).mono ?_
                rintro e W18 ⟨rfl, hB⟩
                replace HA := Lib.hid (HA.out.below hB)
                replace HB := Lib.hid (HB.out.trans (hB.mono HB.out.size))
                replace HU := Lib.hid (HU.out.grow hB)
                replace HL := Lib.hid (HL.out.grow hB)
                replace HT := Lib.hid (fun j hj => keep_below hB _ _ (HT.out j hj))
                replace HSL := Lib.hid (HSL.out.below hB)
                replace HUP := Lib.hid (HUP.out.grow hB)
                replace HUQ := Lib.hid (HUQ.out.grow hB)
                rw [pq_yes rfl]
                clear hB
                refine hK.out _ _ ?_ (fun hHeld => ?_)
                · exact HA.out.2.1
                clear hK K
                refine wpAnyH_take (i := 18) (v := ?_) rfl (by kernel_rfl) (by kernel_rfl) (by kernel_rfl) (fun _ _ _ h => h) (Or.inl ⟨by rfl, ?_⟩) (by assumption) ?_
                rotate_left
                · (intro w hSw; (try dsimp only at hSw); go_simp; try with_reducible rfl)
                simp only [Act.put, List.getElem_toArray, List.getElem_cons_succ, List.getElem_cons_zero, List.setIfInBounds_toArray, List.set_cons_zero, List.set_cons_succ]
                refine wpAnyH_take (i := 19) (v := ?_) rfl (by kernel_rfl) (by kernel_rfl) (by kernel_rfl) (fun _ _ _ h => h) (Or.inl ⟨by rfl, ?_⟩) (by assumption) ?_
                rotate_left
                · (intro w hSw; (try dsimp only at hSw); go_simp; try with_reducible rfl)
                simp only [Act.put, List.getElem_toArray, List.getElem_cons_succ, List.getElem_cons_zero, List.setIfInBounds_toArray, List.set_cons_zero, List.set_cons_succ]
                refine wpAnyH_done (by kernel_rfl) ?_ _
                clear hHeld
                have cHA0 := HA.out.2.1
                go_wp2_with fail
                go_ret
                exact ⟨rfl, HB.out⟩
              exact AllReadyH.nil
            exact AllReadyH.nil
          exact AllReadyH.nil
        exact AllReadyH.nil
      exact AllReadyH.nil
    exact AllReadyH.nil
  exact AllReadyH.nil
end Go.Proofs.YtbdhibcbpgjbmaaGreatDoor

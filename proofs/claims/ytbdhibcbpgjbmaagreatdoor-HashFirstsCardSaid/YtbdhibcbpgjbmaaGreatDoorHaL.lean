/- Layer 19: 'copy' of elements of two cells, as a law for the walk; a row of slots. -/
import Derived.Test.YtbdhibcbpgjbmaaGreatDoorFoW
import Derived.Test.YtbdhibcbpgjbmaaGreatDoorVeF
namespace Go.Proofs.YtbdhibcbpgjbmaaGreatDoor
set_option maxRecDepth 100000
open Go.RowKit
set_option linter.unusedVariables false

theorem run_copy_row2 {P : Program} (w : World) (dT sT ty elem : TypeId) (g o dLen dCap : Nat) (a : Addr) (sLen sCap m : Nat) (cur : Array Value) (t : TypeId) (cs : List Value)
  (hu : P.underlying dT = some (.slice elem)) (hs : (P.info? elem).map (·.size) = some 2)
  (hg : w.heap[g]? = some (.cells cur t (0, 0))) (hn : m = Nat.min sLen dLen) (hcl : cs.length = m * 2)
  (hsrc : ∀ j v, cs[j]? = some v → w.cell? (a.add j) = some v) (hfit : o + cs.length ≤ cur.size) (h1 : ∀ v ∈ cs, v.oneCell' = true) :
  (Builtin.copy_ #[dT, sT] ty #[.slice (some ⟨g, o, none⟩) dLen dCap, .slice (some a) sLen sCap]).run P w =
   .ok (goInt m) (w.setRow g (cur.toList.take o ++ cs ++ cur.toList.drop (o + cs.length)).toArray) := by
 have hl := run_loadCells_list (P := P) w a cs hsrc
 have hst := run_storeCells_at P g o t cs 0 cur w hg (by simpa using hfit) h1
 rw [hcl] at hl
 cases hq : P.info? elem with
 | none => simp [hq] at hs
 | some i =>
  have hi : i.size = 2 := by simpa [hq] using hs
  simp [Builtin.copy_, run_underlying hu, Builtin.lenOf, Builtin.firstCells, sizeOf, typeInfo, hq, hi, ← hn, hl, hst]
theorem run_copy_none2 {P : Program} (w : World) (dT sT ty elem : TypeId) (d a : Option Addr) (dLen dCap sLen sCap : Nat) (hu : P.underlying dT = some (.slice elem)) (hs : (P.info? elem).map (·.size) = some 2) (hn : Nat.min sLen dLen = 0) :
  (Builtin.copy_ #[dT, sT] ty #[.slice d dLen dCap, .slice a sLen sCap]).run P w = .ok (goInt 0) w := by
 cases hq : P.info? elem with
 | none => simp [hq] at hs
 | some i =>
  have hl : ∀ (x : Addr), (loadCells x 0).run P w = .ok #[] w := fun x => by simpa using run_loadCells_list (P := P) w x [] (by simp)
  cases d <;> cases a <;> simp [Builtin.copy_, run_underlying hu, Builtin.lenOf, Builtin.firstCells, sizeOf, typeInfo, hq, hn, storeCells, hl]
theorem wpList_copy_splice2 {P : Program} {w : World} {ops : Array Oper} {rest : List Oper} {o : Oper} {a : Act} {Q : Exit → Act → World → Prop} (hgd : o.guard = none) (d s : Operand) (dT sT : TypeId)
  (ho : o.op = .call { callee := .builtin .copy, args := #[d, s], argTypes := #[dT, sT] }) (elem : TypeId) (hu : P.underlying dT = some (.slice elem)) (hsz : (P.info? elem).map (·.size) = some 2)
  (dp sp : Option Addr) (dLen dCap sLen sCap m : Nat) (hd : a.eval d = .slice dp dLen dCap) (hs : a.eval s = .slice sp sLen sCap)
  (g off : Nat) (cur : List Value) (t : TypeId) (hg : w.heap[g]? = some (.cells cur.toArray t (0, 0))) (cs : List Value) (hn : m = Nat.min sLen dLen) (hcl : cs.length = m * 2)
  (hpos : 0 < m → dp = some ⟨g, off, none⟩ ∧ ∃ ad, sp = some ad ∧ ∀ j v, cs[j]? = some v → w.cell? (ad.add j) = some v)
  (hfit : off + cs.length ≤ cur.length) (h1 : ∀ v ∈ cs, v.oneCell' = true) (B : Nat) (w0 : World) (hb : Below B w0 w) (hBg : B ≤ g)
  (h : ∀ w', Hid (w'.heap[g]? = some (.cells (splice cur off cs).toArray t (0, 0))) → Below B w0 w' → wpList P ops Q rest (a.put o.dst (goInt m)) w') :
  wpList P ops Q (o :: rest) a w := by
 refine wpList_plain hgd fun K hK => ?_
 by_cases h0 : m = 0
 ·subst h0
  obtain rfl : cs = [] := List.eq_nil_of_length_eq_zero (by simpa using hcl)
  have hrun := run_copy_none2 (P := P) w dT sT o.type elem dp sp dLen dCap sLen sCap hu hsz hn.symm
  unfold Oper.wp
  simp [execOp, ho, resolve, invoke, builtin, hd, hs, hrun, Result.andThen]
  exact hK _ _ (h w (show _ = _ by simpa [splice] using hg) hb)
 ·obtain ⟨rfl, ad, rfl, hsrc⟩ := hpos (by omega)
  have hrun := run_copy_row2 (P := P) w dT sT o.type elem g off dLen dCap ad sLen sCap m cur.toArray t cs hu hsz hg hn hcl hsrc (by simpa using hfit) h1
  unfold Oper.wp
  simp [execOp, ho, resolve, invoke, builtin, hd, hs, hrun, Result.andThen]
  exact hK _ _ (h _ (show _ = _ by simpa [splice] using setRow_heap w g _ _ t _ hg) (below_setRow hb hBg _))
theorem step_copy_splice2 {P : Program} {ops : Array Oper} {o : Oper} {a : Act} {w : World} {K : Act → World → Prop} {Q : Exit → Act → World → Prop} {E : Prop} (hgd : o.guard = none) (d s : Operand) (dT sT : TypeId)
  (ho : o.op = .call { callee := .builtin .copy, args := #[d, s], argTypes := #[dT, sT] }) (elem : TypeId) (hu : P.underlying dT = some (.slice elem)) (hsz : (P.info? elem).map (·.size) = some 2)
  (dp sp : Option Addr) (dLen dCap sLen sCap m : Nat) (hd : a.eval d = .slice dp dLen dCap) (hs : a.eval s = .slice sp sLen sCap)
  (g off : Nat) (cur : List Value) (t : TypeId) (hg : w.heap[g]? = some (.cells cur.toArray t (0, 0))) (cs : List Value) (hn : m = Nat.min sLen dLen) (hcl : cs.length = m * 2)
  (hpos : 0 < m → dp = some ⟨g, off, none⟩ ∧ ∃ ad, sp = some ad ∧ ∀ j v, cs[j]? = some v → w.cell? (ad.add j) = some v)
  (hfit : off + cs.length ≤ cur.length) (h1 : ∀ v ∈ cs, v.oneCell' = true) (B : Nat) (w0 : World) (hb : RowKit.Below B w0 w) (hBg : B ≤ g)
  (h : ∀ w', RowKit.Hid (w'.heap[g]? = some (.cells (splice cur off cs).toArray t (0, 0))) → RowKit.Below B w0 w' → K (a.put o.dst (goInt m)) w') :
  if Region.wanted o (yielded ops a.tmps) = true then Oper.wp P o a w K Q else E := by
 have hw : Region.wanted o (yielded ops a.tmps) = true := by simp [Region.wanted, hgd]
 rw [if_pos hw]
 by_cases h0 : m = 0
 ·subst h0
  obtain rfl : cs = [] := List.eq_nil_of_length_eq_zero (by simpa using hcl)
  have hrun := run_copy_none2 (P := P) w dT sT o.type elem dp sp dLen dCap sLen sCap hu hsz hn.symm
  unfold Oper.wp
  simp [execOp, ho, resolve, invoke, builtin, hd, hs, hrun, Result.andThen]
  exact h w (show _ = _ by simpa [splice] using hg) hb
 ·obtain ⟨rfl, ad, rfl, hsrc⟩ := hpos (by omega)
  have hrun := run_copy_row2 (P := P) w dT sT o.type elem g off dLen dCap ad sLen sCap m cur.toArray t cs hu hsz hg hn hcl hsrc (by simpa using hfit) h1
  unfold Oper.wp
  simp [execOp, ho, resolve, invoke, builtin, hd, hs, hrun, Result.andThen]
  exact h _ (show _ = _ by simpa [splice] using setRow_heap w g _ _ t _ hg) (below_setRow hb hBg _)

/-- The cells of slots: each a key and a place. -/
def flatH (S : List (Nat × Int)) : List Value := S.flatMap fun t => [.int .u64 (t.1 : Int), .int .i64 t.2]
theorem flatH_len (S : List (Nat × Int)) : (flatH S).length = S.length * 2 := by
 induction S with
 | nil => rfl
 | cons t L ih => simp only [flatH, List.flatMap_cons, List.length_append] at ih ⊢; rw [ih]; simp; omega
theorem flatH_app (P Q : List (Nat × Int)) : flatH (P ++ Q) = flatH P ++ flatH Q := by simp [flatH]
theorem flatH_at {P : List (Nat × Int)} {i : Nat} {p : Nat × Int} (h : P[i]? = some p) : (flatH P)[i * 2]? = some (.int .u64 (p.1 : Int)) ∧ (flatH P)[i * 2 + 1]? = some (.int .i64 p.2) := by
 obtain ⟨hk, e⟩ := List.getElem?_eq_some_iff.1 h
 have hl : P = P.take i ++ ([p] ++ P.drop (i + 1)) := by rw [← e]; simp
 have hlen : (flatH (P.take i)).length = i * 2 := by rw [flatH_len, List.length_take]; omega
 have hf : flatH P = flatH (P.take i) ++ ([.int .u64 (p.1 : Int), .int .i64 p.2] ++ flatH (P.drop (i + 1))) := by
  conv => lhs; rw [hl]
  simp [flatH]
 rw [hf]
 exact ⟨by rw [List.getElem?_append_right (by omega), hlen]; simp, by rw [List.getElem?_append_right (by omega), hlen, Nat.add_sub_cancel_left]; rfl⟩
theorem flatH_none {L : List (Nat × Int)} {j : Nat} (h : L.length * 2 ≤ j) : (flatH L)[j]? = none := by
 apply List.getElem?_eq_none
 rw [flatH_len]; exact h
theorem flatH_set (L : List (Nat × Int)) (k : Nat) (t : Nat × Int) (h : k < L.length) : ((flatH L).set (k * 2) (.int .u64 (t.1 : Int))).set (k * 2 + 1) (.int .i64 t.2) = flatH (L.set k t) := by
 apply List.ext_getElem?
 intro j
 obtain ⟨i, r, hr, rfl⟩ : ∃ i r, r < 2 ∧ j = i * 2 + r := ⟨j / 2, j % 2, by omega, by omega⟩
 have hl : (flatH L).length = L.length * 2 := flatH_len L
 by_cases hi : i < L.length
 ·by_cases e : i = k
  ·subst e
   obtain ⟨c0, c1⟩ := flatH_at (show (L.set i t)[i]? = some t by rw [List.getElem?_set_self h])
   match r, hr with
   | 0, _ => simp only [Nat.add_zero]; rw [c0]; simp only [List.getElem?_set, List.length_set]; simp; omega
   | 1, _ => rw [c1]; simp only [List.getElem?_set, List.length_set]; simp; omega
  ·have h2 : (L.set k t)[i]? = L[i]? := by rw [List.getElem?_set_ne (fun x => e x.symm)]
   have h3 : L[i]? = some L[i] := List.getElem?_eq_getElem hi
   rw [h3] at h2
   obtain ⟨c0, c1⟩ := flatH_at h2
   obtain ⟨e0, e1⟩ := flatH_at h3
   rw [List.getElem?_set_ne (by omega), List.getElem?_set_ne (by omega)]
   match r, hr with
   | 0, _ => simp only [Nat.add_zero]; rw [c0, e0]
   | 1, _ => rw [c1, e1]
 ·rw [List.getElem?_set_ne (by omega), List.getElem?_set_ne (by omega), flatH_none (by omega), flatH_none (by rw [List.length_set]; omega)]
/-- A block that holds slots, whole. -/
def RowH (w : World) (b : Nat) (S : List (Nat × Int)) : Prop := w.heap[b]? = some (.cells (flatH S).toArray 110 (0, 0))
theorem RowH.cell {w : World} {b : Nat} {S : List (Nat × Int)} (h : RowH w b S) {i : Nat} {x : Nat × Int} (hx : S[i]? = some x) :
  w.cell? ⟨b, i * 2, none⟩ = some (.int .u64 (x.1 : Int)) ∧ w.cell? ⟨b, i * 2 + 1, none⟩ = some (.int .i64 x.2) := ⟨row_cell h (flatH_at hx).1, row_cell h (flatH_at hx).2⟩
theorem RowH.free {w : World} {b : Nat} {S : List (Nat × Int)} (h : RowH w b S) (i : Nat) : w.frozen? ⟨b, i, none⟩ = false := frozen_of_row w b i _ _ h
theorem RowH.lt {w : World} {b : Nat} {S : List (Nat × Int)} (h : RowH w b S) : b < w.heap.size := lt_heap h
theorem RowH.set {w : World} {b : Nat} {S : List (Nat × Int)} (h : RowH w b S) (i : Nat) (x : Nat × Int) (hi : i < S.length) : RowH ((w.setCell ⟨b, i * 2, none⟩ (.int .u64 (x.1 : Int))).setCell ⟨b, i * 2 + 1, none⟩ (.int .i64 x.2)) b (S.set i x) := by
 have h1 := heap_setCell_same w b (i * 2) _ _ (.int .u64 (x.1 : Int)) h
 have h2 := heap_setCell_same _ b (i * 2 + 1) _ _ (.int .i64 x.2) h1
 unfold RowH
 rw [h2]
 congr 2
 rw [List.setIfInBounds_toArray, List.setIfInBounds_toArray, flatH_set S i x hi]
theorem RowH.below {w w' : World} {b : Nat} {S : List (Nat × Int)} (h : RowH w b S) (hb : Below w.heap.size w w') : RowH w' b S := (hb.block _ h.lt).trans h
theorem RowH.kept {w w' : World} {b c : Nat} {S : List (Nat × Int)} (h : RowH w b S) (hg : w.grownBy w' (some c)) (hne : b ≠ c) : RowH w' b S := (hg.block _ h.lt (by simpa using hne)).trans h

theorem info_slot : (Tryz.prog.info? 110).map (fun i => (i.zero, i.size, i.bytes)) = some (some (.agg #[.int .u64 0, .int .i64 0]), 2, 16) := by kernel_rfl
def zerosH (n : Nat) : Array Value := madeCells (Value.agg #[.int .u64 0, .int .i64 0]).cells (n * 2)
theorem zerosH_list (n : Nat) : (zerosH n).toList = flatH (List.replicate n (0, 0)) := by
 apply List.ext_getElem?
 intro j
 unfold zerosH
 rw [show (Value.agg #[.int .u64 0, .int .i64 0]).cells = #[.int .u64 0, .int .i64 0] from rfl]
 obtain ⟨i, r, hr, rfl⟩ : ∃ i r, r < 2 ∧ j = i * 2 + r := ⟨j / 2, j % 2, by omega, by omega⟩
 by_cases hj : i < n
 ·obtain ⟨c0, c1⟩ := flatH_at (show (List.replicate n ((0 : Nat), (0 : Int)))[i]? = some (0, 0) by simp [hj])
  match r, hr with
  | 0, _ => simp only [Nat.add_zero]; rw [c0]; simp [madeCells]; exact ⟨i * 2, by rw [List.getElem?_range (by omega)], by rw [show (i * 2) % 2 = 0 by omega]; rfl⟩
  | 1, _ => rw [c1]; simp [madeCells]; exact ⟨i * 2 + 1, by rw [List.getElem?_range (by omega)], by rw [show (i * 2 + 1) % 2 = 1 by omega]; rfl⟩
 ·rw [flatH_none (by simp; omega)]
  apply List.getElem?_eq_none
  simp [madeCells]; omega
theorem run_mkH (n : Nat) (hn : n ≤ 4000000) (w : World) : (Instr.makeSlice 104 (.int .i64 (n : Int)) (.int .i64 (n : Int))).run Tryz.prog w = .ok (.slice (some ⟨w.heap.size, 0, none⟩) n n) (w.alloc (.cells (zerosH n) 110)) := by
 obtain ⟨i0, hi, hz0, hz1, hz2⟩ := info_parts info_slot
 have hr := run_make (P := Tryz.prog) w 104 110 i0 _ Tryz.underlying104 hi hz0 .i64 .i64 n n (by omega) (Int.le_refl _) (by rw [hz2]; omega) (by omega)
 simp only [Int.toNat_natCast, hz1] at hr
 exact hr
theorem RowH.made (n : Nat) (w : World) : RowH (w.alloc (.cells (zerosH n) 110)) w.heap.size (List.replicate n (0, 0)) := by
 have e : zerosH n = (flatH (List.replicate n (0, 0))).toArray := Array.toList_inj.1 (by rw [zerosH_list])
 unfold RowH
 rw [e]
 simp only [World.alloc, Array.getElem?_push_size]
/-- A row of c slots, the first n of them empty ones. -/
def repH (c n : Nat) : List (Nat × Int) := List.replicate n (0, -1) ++ List.replicate (c - n) (0, 0)
theorem repH_len (c n : Nat) (h : n ≤ c) : (repH c n).length = c := by simp [repH]; omega
theorem repH_full (c : Nat) : repH c c = List.replicate c (0, -1) := by simp [repH]
theorem repH_zero (c : Nat) : repH c 0 = List.replicate c (0, 0) := by simp [repH]
theorem repH_get (c n : Nat) {j : Nat} (hj : j < n) : (repH c n)[j]? = some (0, -1) := by
 unfold repH
 rw [List.getElem?_append_left (by simpa using hj), List.getElem?_replicate, if_pos hj]
theorem flatH_take (S : List (Nat × Int)) (n : Nat) : (flatH S).take (n * 2) = flatH (S.take n) := by
 by_cases h : n ≤ S.length
 ·conv => lhs; rw [← List.take_append_drop n S, flatH_app]
  rw [List.take_left' (by rw [flatH_len, List.length_take]; omega)]
 ·rw [List.take_of_length_le (by rw [flatH_len]; omega), List.take_of_length_le (by omega)]
theorem flatH_drop (S : List (Nat × Int)) (n : Nat) : (flatH S).drop (n * 2) = flatH (S.drop n) := by
 by_cases h : n ≤ S.length
 ·conv => lhs; rw [← List.take_append_drop n S, flatH_app]
  rw [List.drop_left' (by rw [flatH_len, List.length_take]; omega)]
 ·rw [List.drop_eq_nil_of_le (by rw [flatH_len]; omega), List.drop_eq_nil_of_le (by omega)]; rfl
theorem repH_splice (c n k : Nat) (h : n + k ≤ c) : splice (flatH (repH c n)) (n * 2) (flatH (List.replicate k (0, -1))) = flatH (repH c (n + k)) := by
 unfold splice
 rw [flatH_len, List.length_replicate, ← Nat.add_mul, flatH_take, flatH_drop, ← flatH_app, ← flatH_app]
 congr 1
 unfold repH
 rw [List.take_left' (by simp), ← List.append_assoc, List.replicate_append_replicate, List.drop_append, List.drop_eq_nil_of_le (by simp), List.nil_append, List.drop_replicate]
 congr 2
 simp; omega
end Go.Proofs.YtbdhibcbpgjbmaaGreatDoor

/- Package vec, walked: lists of arrays; clones. -/
import Derived.Test.YtbdhibcbpgjbmaaGreatDoorVeK
namespace Go.Proofs.YtbdhibcbpgjbmaaGreatDoor
open Go.RowKit
set_option linter.unusedVariables false
set_option maxRecDepth 100000

/-- s is a slice of the arrays l. -/
def Arrs (w : World) (ok : Nat → Prop) (s : Value) (l : List (List Int × VV)) : Prop :=
 ∃ (ao : Option Addr) (cap : Nat) (f g : Nat → Value), s = .slice ao l.length cap ∧ l.length ≤ cap ∧ cap ≤ maxLen ∧
  (∀ i, i < l.length → ∃ b off, ao = some ⟨b, off, Option.none⟩ ∧ ok b ∧ w.cell? ⟨b, off + i * 2, Option.none⟩ = some (f i) ∧ w.cell? ⟨b, off + i * 2 + 1, Option.none⟩ = some (g i)) ∧
  (∀ i (h : i < l.length), Slc w ok (f i) (l[i]).1.length (ints (l[i]).1)) ∧ (∀ i (h : i < l.length), IsV w ok (g i) (l[i]).2)
theorem Arrs.keep {w w' : World} {ok ok' : Nat → Prop} {s : Value} {l : List (List Int × VV)} (hk : Kept ok w w') (hm : ∀ b, b < w.heap.size → ok b → ok' b) (h : Arrs w ok s l) : Arrs w' ok' s l := by
 obtain ⟨ao, cap, f, g, e, h1, h2, hc, hs, hv⟩ := h
 refine ⟨ao, cap, f, g, e, h1, h2, fun i hi => ?_, fun i hi => (hs i hi).keep hk hm, fun i hi => (hv i hi).keep hk hm⟩
 obtain ⟨b, off, e, hb, c1, c2⟩ := hc i hi
 exact ⟨b, off, e, hm b (World.block_lt_of_cell? w _ c1) hb, hk _ _ hb c1, hk _ _ hb c2⟩
theorem Arrs.grow {w w' : World} {ok : Nat → Prop} {s : Value} {l : List (List Int × VV)} (h : Arrs w ok s l) (hb : Below w.heap.size w w') : Arrs w' ok s l := h.keep (Kept.below hb) (fun _ _ h => h)
theorem Arrs.nil (w : World) (ok : Nat → Prop) : Arrs w ok (.slice Option.none 0 0) [] :=
 ⟨Option.none, 0, fun _ => undef, fun _ => undef, rfl, Nat.le_refl _, by unfold maxLen; omega, fun i h => absurd h (by simp), fun i h => absurd h (by simp), fun i h => absurd h (by simp)⟩
theorem Arrs.boxes {w : World} {ok : Nat → Prop} {s : Value} {l : List (List Int × VV)} (h : Arrs w ok s l) : IsV w ok (.iface 103 s) (.boxes l) := by
 obtain ⟨ao, cap, f, g, rfl, h1, h2, hc, hs, hv⟩ := h
 exact .boxes f g h1 h2 hc hs hv
/-- Cells of pairs. -/
def pairL (n : Nat) (A B : Nat → Value) : List Value := (List.range (n * 2)).map fun j => if j % 2 = 0 then A (j / 2) else B (j / 2)
def upd (A : Nat → Value) (k : Nat) (x : Value) : Nat → Value := fun i => if i = k then x else A i
theorem pairL_len (n : Nat) (A B : Nat → Value) : (pairL n A B).length = n * 2 := by simp [pairL]
theorem pairL_fst (n : Nat) (A B : Nat → Value) (k : Nat) (h : k * 2 < (pairL n A B).length) : (pairL n A B)[k * 2] = A k := by
 simp [pairL]
theorem pairL_snd (n : Nat) (A B : Nat → Value) (k : Nat) (h : k * 2 + 1 < (pairL n A B).length) : (pairL n A B)[k * 2 + 1] = B k := by
 have e1 : (k * 2 + 1) % 2 = 1 := by omega
 have e2 : (k * 2 + 1) / 2 = k := by omega
 simp [pairL, e1, e2]
theorem pairL_set1 (n : Nat) (A B : Nat → Value) (k : Nat) (x : Value) : (pairL n A B).set (k * 2) x = pairL n (upd A k x) B := by
 apply List.ext_getElem (by simp [pairL])
 intro j h1 h2
 rw [List.getElem_set]
 simp only [pairL, List.getElem_map, List.getElem_range, upd]
 by_cases e : k * 2 = j
 ·subst e; simp
 ·rw [if_neg e]
  by_cases e2 : j % 2 = 0
  ·rw [if_pos e2, if_pos e2, if_neg (by omega)]
  ·rw [if_neg e2, if_neg e2]
theorem pairL_set2 (n : Nat) (A B : Nat → Value) (k : Nat) (x : Value) : (pairL n A B).set (k * 2 + 1) x = pairL n A (upd B k x) := by
 apply List.ext_getElem (by simp [pairL])
 intro j h1 h2
 rw [List.getElem_set]
 simp only [pairL, List.getElem_map, List.getElem_range, upd]
 by_cases e : k * 2 + 1 = j
 ·subst e
  have e1 : ¬ (k * 2 + 1) % 2 = 0 := by omega
  have e2 : (k * 2 + 1) / 2 = k := by omega
  simp [e2]
 ·rw [if_neg e]
  by_cases e2 : j % 2 = 0
  ·rw [if_pos e2, if_pos e2]
  ·rw [if_neg e2, if_neg e2, if_neg (by omega)]
/-- The first k, then no interface. -/
def upTo (g : Nat → Value) (k : Nat) : Nat → Value := fun i => if i < k then g i else .nilIface
theorem upTo_upd (g : Nat → Value) (k : Nat) : upd (upTo g k) k (g k) = upTo g (k + 1) := by
 funext i
 simp only [upd, upTo]
 by_cases e : i = k
 ·subst e; simp
 ·rw [if_neg e]
  by_cases h : i < k
  ·rw [if_pos h, if_pos (by omega)]
  ·rw [if_neg h, if_neg (by omega)]
def zerosA (n : Nat) : Array Value := madeCells (Value.agg #[.slice Option.none 0 0, .nilIface]).cells (n * 2)
theorem zerosA_list (n : Nat) : (zerosA n).toList = pairL n (fun _ => .slice Option.none 0 0) (upTo (fun _ => .nilIface) 0) := by
 apply List.ext_getElem?
 intro j
 unfold zerosA
 rw [show (Value.agg #[.slice Option.none 0 0, .nilIface]).cells = #[.slice Option.none 0 0, .nilIface] from rfl]
 by_cases hj : j < n * 2
 ·rcases Nat.mod_two_eq_zero_or_one j with e | e
  ·simp [madeCells, pairL, upTo, hj, e]
  ·simp [madeCells, pairL, upTo, hj, e]
 ·simp [madeCells, pairL, hj]
theorem upTo_zero (g g' : Nat → Value) : upTo g 0 = upTo g' 0 := by funext i; simp [upTo]
theorem own_mkA (n : Nat) (hn : n ≤ 2000000) (w : World) (base : Nat) (hb : base ≤ w.heap.size) (g : Nat → Value) : (w.alloc (.cells (zerosA n) 38)).ownsRow base 38 2 (.slice (some ⟨w.heap.size, 0, Option.none⟩) n n) n (pairL n (fun _ => .slice Option.none 0 0) (upTo g 0)) := by
 have ho := World.ownsRow_lit (e := 38) (size := 2) w (zerosA n) n hb (by unfold maxLen; omega) (size_madeCells _ _)
 rw [zerosA_list, upTo_zero _ g] at ho
 exact ho
theorem run_mkA (n : Nat) (hn : n ≤ 2000000) (w : World) : (Instr.makeSlice 103 (.int .i64 (n : Int)) (.int .i64 (n : Int))).run Tryz.prog w = .ok (.slice (some ⟨w.heap.size, 0, Option.none⟩) n n) (w.alloc (.cells (zerosA n) 38)) := by
 obtain ⟨i0, hi, hz0, hz1, hz2⟩ := info_parts info_arr
 have hr := run_make (P := Tryz.prog) w 103 38 i0 _ Tryz.underlying103 hi hz0 .i64 .i64 n n (by omega) (Int.le_refl _) (by rw [hz2]; omega) (by omega)
 simp only [Int.toNat_natCast, hz1] at hr
 exact hr
theorem owns_below2 {w w' : World} {base size : Nat} {e : TypeId} {v : Value} {n : Nat} {xs : List Value} (h : w.ownsRow base e size v n xs) (hb : Below w.heap.size w w') : w'.ownsRow base e size v n xs :=
 World.ownsRow.kept (row := Option.none) h ⟨hb.os, hb.tape, hb.output, hb.size, fun k hk _ => hb.block k hk⟩ (by cases hv : v.ownBlock <;> simp)
theorem owns_cell2 {w : World} {base size : Nat} {e : TypeId} {g n cap : Nat} {xs : List Value} (h : w.ownsRow base e size (.slice (some ⟨g, 0, Option.none⟩) n cap) n xs) (i : Nat) (hi : i < xs.length) : w.cell? ⟨g, i, Option.none⟩ = some xs[i] := by
 rw [h.cellAt i (by have := h.1; omega), List.getElem?_eq_getElem hi]

set_option maxHeartbeats 4000000 in
theorem clones_calls {ok : Nat → Prop} (v : Value) (l : List (List Int × VV)) (w : World) (hv : Arrs w ok v l) (hm : l.length ≤ 1048576) (hs : ∀ p ∈ l, p.1.length ≤ 1048576) :
  Calls Tryz.prog 102 #[v] w fun e w' => ∃ v, e = .returned v ∧ Arrs w' (fun b => ok b ∨ w.heap.size ≤ b) v l ∧ Below w.heap.size w w' := by
 obtain ⟨ao, cap, f, g, rfl, h1, h2, hc, hsh, hvv⟩ := hv
 have HC := Lib.hid hc; have HSH := Lib.hid hsh; have HVV := Lib.hid hvv; have HSL := Lib.hid hs; clear hc hsh hvv hs h1 h2
 have hmk := run_mkA l.length (by omega) w
 obtain ⟨W0, hW0⟩ : ∃ W0, W0 = w.alloc (.cells (zerosA l.length) 38) := ⟨_, rfl⟩
 have HO0 := Lib.hid (show W0.ownsRow w.heap.size 38 2 (.slice (some ⟨w.heap.size, 0, Option.none⟩) l.length l.length) l.length (pairL l.length (fun _ => .slice Option.none 0 0) (upTo g 0)) by rw [hW0]; exact own_mkA _ (by omega) _ _ (Nat.le_refl _) g)
 have HW := Lib.hid (show Below w.heap.size w W0 by rw [hW0]; exact below_new _ _)
 go_enter Tryz.func102, Tryz.ntmps102
 go_wp2
 rw [← hW0]
 clear hW0 hmk
 go_loopw [11] (fun i wr => ∃ (k : Nat) (A : Nat → Value), k ≤ l.length ∧ i = .int .i64 k ∧ wr.ownsRow w.heap.size 38 2 (.slice (some ⟨w.heap.size, 0, Option.none⟩) l.length l.length) l.length (pairL l.length A (upTo g k)) ∧ (∀ i (h : i < l.length), i < k → Slc wr (fun b => w.heap.size < b) (A i) (l[i]).1.length (ints (l[i]).1)) ∧ W0.grownBy wr (some w.heap.size)) (fun i _ => l.length - (intOf i).toNat)
 case atStart => exact ⟨0, fun _ => .slice Option.none 0 0, by omega, rfl, HO0.out, fun i _ h => absurd h (by omega), grown_refl _ _⟩
 case round =>
  obtain ⟨k, A, hk, rfl, hown, hA, hgr⟩ := hrel
  have HO := Lib.hid hown; have HG := Lib.hid hgr; have HA := Lib.hid hA
  have HB := Lib.hid (HW.out.grown hgr HW.out.size (fun j hj => by cases hj; omega))
  have hgs := (hown.lt w.heap.size rfl).2
  by_cases hlt : k < l.length
  ·obtain ⟨b, off, rfl, _, c1, c2⟩ := HC.out k hlt
   have d1 := keep_below HB.out _ _ c1
   have d2 := keep_below HB.out _ _ c2
   have HSk := Lib.hid ((HSH.out k hlt).below (HB.out.alloc HB.out.size (.cells #[f k, g k] 38)))
   have HLk := Lib.hid (HSL.out _ (List.getElem_mem hlt))
   have hshape := (HVV.out k hlt).shape
   obtain ⟨S, hS⟩ : ∃ S, S = (l[k]'hlt).1 := ⟨_, rfl⟩
   rw [← hS] at HSk HLk
   have HSe := Lib.hid hS
   obtain ⟨fk, hfk⟩ : ∃ fk, fk = f k := ⟨_, rfl⟩
   obtain ⟨gk, hgk⟩ : ∃ gk, gk = g k := ⟨_, rfl⟩
   rw [← hfk] at d1 HSk
   rw [← hgk] at d2 HSk hshape
   have HGK := Lib.hid hgk
   obtain ⟨aok, capk, rfl, _, _, _, _⟩ := HSk.out.opened
   have HU := Lib.hid hshape; clear hS hfk hgk c1 c2 hown hA hgr
   unfold IsIface at hshape
   rcases hshape with rfl | ⟨t, x, rfl⟩
   all_goals
    go_wp2_with fail
    refine (aclone_calls _ _ S _ HSk.out HU.out HLk.out).mono ?_
    rintro e w2 ⟨sh', rfl, hs1, hB2⟩
    obtain ⟨ao1, cap1, rfl, _⟩ := hs1.opened
    have hBwr := Lib.hid ((below_new wr (.cells #[.slice aok S.length capk, _] 38)).trans (hB2.mono (by simp)))
    have HO2 := Lib.hid (owns_below2 HO.out hBwr.out)
    have HG2 := Lib.hid (grown_trans HG.out (grown_any (below_grown hBwr.out) _))
    have HS1 := Lib.hid (hs1.keep (Kept.refl _ _) (ok' := fun b => w.heap.size < b) (fun b _ h => by simp at h; omega))
    have HA2 := Lib.hid (fun i (h : i < l.length) (h2 : i < k) => (HA.out i h h2).below hBwr.out)
    have e1 := owns_cell2 HO2.out (k * 2) (by rw [pairL_len]; omega)
    have e2 := owns_cell2 HO2.out (k * 2 + 1) (by rw [pairL_len]; omega)
    have z1 := World.ownsRow.frozenAt HO2.out (k * 2)
    have z2 := World.ownsRow.frozenAt HO2.out (k * 2 + 1)
    clear hs1 hB2
    go_wp2
    go_roundw
    case rel =>
     refine ⟨k + 1, upd A k (.slice ao1 S.length cap1), by omega, by go_num, ?_, ?_, grown_trans (grown_trans HG2.out (grown_setCell _ ⟨w.heap.size, k * 2, Option.none⟩ _)) (grown_setCell _ ⟨w.heap.size, k * 2 + 1, Option.none⟩ _)⟩
     ·have q1 := (World.ownsRow.stored HO2.out (k * 2) (.slice ao1 S.length cap1)).1
      have q2 := (World.ownsRow.stored q1 (k * 2 + 1) (g k)).1
      rw [pairL_set1, pairL_set2, upTo_upd] at q2
      rw [← HGK.out] at q2
      exact q2
     ·intro i hi hik
      have kk : ∀ y, Kept (fun b => w.heap.size < b) w2 ((w2.setCell ⟨w.heap.size, k * 2, Option.none⟩ (.slice ao1 S.length cap1)).setCell ⟨w.heap.size, k * 2 + 1, Option.none⟩ y) := fun y => (Kept.setCell _ _ _ (by simp)).trans (Kept.setCell _ _ _ (by simp))
      by_cases e : i = k
      ·subst e
       simp only [upd, if_true]
       rw [← HSe.out]
       exact HS1.out.keep (kk _) (fun _ _ h => h)
      ·simp only [upd, if_neg e]
       exact (HA2.out i hi (by omega)).keep (kk _) (fun _ _ h => h)
    case measure => simp [intOf]; omega
  ·have hkl : k = l.length := by omega
   have HK := Lib.hid hkl; clear hown hA hgr hkl
   go_wp2
   go_ret
   refine ⟨_, rfl, ?_, HB.out⟩
   have hO := HO.out
   refine ⟨_, _, A, g, rfl, Nat.le_refl _, by unfold maxLen; omega, fun i hi => ⟨w.heap.size, 0, rfl, .inr (Nat.le_refl _), ?_, ?_⟩, fun i hi => ?_, fun i hi => ?_⟩
   ·rw [Nat.zero_add, owns_cell2 hO (i * 2) (by rw [pairL_len]; omega), pairL_fst]
   ·rw [Nat.zero_add, owns_cell2 hO (i * 2 + 1) (by rw [pairL_len]; omega), pairL_snd, upTo, if_pos (by omega)]
   ·exact (HA.out i hi (by omega)).keep (Kept.refl _ _) (fun b _ h => .inr (Nat.le_of_lt h))
   ·exact (HVV.out i hi).keep (Kept.below HB.out) (fun b _ h => .inl h)
theorem Arrs.go {w w' : World} {ok : Nat → Prop} {s : Value} {l : List (List Int × VV)} (h : Arrs w ok s l) (hB : Below w.heap.size w w') : Hid (Arrs w' ok s l) := Lib.hid (h.grow hB)
end Go.Proofs.YtbdhibcbpgjbmaaGreatDoor

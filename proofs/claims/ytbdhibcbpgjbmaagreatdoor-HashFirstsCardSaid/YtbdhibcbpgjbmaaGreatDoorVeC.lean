/- Package slices: Clone, for five types of elements. -/
import Derived.Test.YtbdhibcbpgjbmaaGreatDoorVeB
namespace Go.Proofs.YtbdhibcbpgjbmaaGreatDoor
open Go.RowKit
set_option linter.unusedVariables false
set_option maxRecDepth 100000

set_option maxHeartbeats 1000000 in
theorem CloneI8_calls {ok : Nat → Prop} (v : Value) (l : List Int) (w : World) (hv : Slc w ok v l.length (i8s l)) (hm0 : l.length ≤ 2000000) :
  Calls Tryz.prog 87 #[v] w fun e w' => ∃ v, e = .returned v ∧ Slc w' (fun b => w.heap.size ≤ b) v l.length (i8s l) ∧ Below w.heap.size w w' := by
 obtain ⟨i0, hi, hz0, hz1, hz2⟩ := info_parts info_i8
 obtain ⟨ao, cap, rfl, h1, h2, _, hcells⟩ := hv.opened
 have hm : l.length ≤ maxLen := by unfold maxLen; omega
 clear hv h1 h2
 have qT : ∀ (w : World) (a : Option Addr) (n c n' c' : Nat), (binOp .eql 85 (.slice a n c) (.slice none n' c')).run Tryz.prog w = .ok (.bool a.isNone) w := fun w a n c n' c' => Lib.run_eql_slice_nil w _ _ a n c n' c' Tryz.underlying85
 cases ao with
 | none =>
  have h0 : l = [] := by
   cases l with
   | nil => rfl
   | cons z zs => obtain ⟨b, off, e, _⟩ := hcells 0 (by simp [i8s]); cases e
  subst h0
  go_enter Tryz.func87, Tryz.ntmps87
  go_wp2
  go_ret
  exact ⟨_, rfl, Slc.nil _ _, Below.refl _ _⟩
 | some ad =>
  have hc : ∀ j u, (i8s l)[j]? = some u → w.cell? (ad.add j) = some u := by
   intro j u hj
   obtain ⟨hj', e⟩ := List.getElem?_eq_some_iff.1 hj
   obtain ⟨b, off, e2, _, hcell⟩ := hcells j hj'
   obtain rfl := Option.some.inj e2
   rw [← e, Go.WideShapes.add_plain]; exact hcell
  have HC := Lib.hid hc
  have hone : Hid (∀ u ∈ i8s l, u.oneCell' = true) := Lib.hid (by
   intro u hu
   simp only [i8s, List.mem_map] at hu
   obtain ⟨z, _, rfl⟩ := hu
   rfl)
  have hown := World.ownsRow_lit (base := w.heap.size) (e := 87) (size := 1) w #[] 0 (Nat.le_refl _) (by unfold maxLen; omega) rfl
  have HO := Lib.hid hown
  have HL := Lib.hid (show (i8s l).length = l.length * 1 by rw [i8s_len, Nat.mul_one])
  clear hc hown hcells
  go_enter Tryz.func87, Tryz.ntmps87
  go_wp2_with (at_builtin; refine wpList_append_own _ rfl _ _ 85 rfl w.heap.size 87 i0 (.int .i8 0) 1 1 Tryz.underlying85 hi hz0 hz1 hz2 rfl (by decide) _ _ _ rfl HO.out ad l.length cap (i8s l) rfl HL.out ?c1 hone.out ?c3 ?c4 ?c5 ?_)
  case c1 => exact fun j u hj => keep_alloc _ _ _ _ (HC.out j u hj)
  case c4 => omega
  intro v' w1 hown' hgrow _
  have HO1 := Lib.hid hown'
  have HB1 := Lib.hid (grown_below ((Below.refl w.heap.size w).alloc (Nat.le_refl _) _) HO.out (Nat.le_refl _) (by simp) hgrow)
  clear hown' hgrow
  go_wp2
  go_ret
  exact ⟨_, rfl, by have := Slc.owned HO1.out; simpa using this, HB1.out⟩

set_option maxHeartbeats 1000000 in
theorem CloneI64_calls {ok : Nat → Prop} (v : Value) (l : List Int) (w : World) (hv : Slc w ok v l.length (ints l)) (hm0 : l.length ≤ 2000000) :
  Calls Tryz.prog 88 #[v] w fun e w' => ∃ v, e = .returned v ∧ Slc w' (fun b => w.heap.size ≤ b) v l.length (ints l) ∧ Below w.heap.size w w' := by
 obtain ⟨i0, hi, hz0, hz1, hz2⟩ := info_parts info_i64
 obtain ⟨ao, cap, rfl, h1, h2, _, hcells⟩ := hv.opened
 have hm : l.length ≤ maxLen := by unfold maxLen; omega
 clear hv h1 h2
 have qT : ∀ (w : World) (a : Option Addr) (n c n' c' : Nat), (binOp .eql 89 (.slice a n c) (.slice none n' c')).run Tryz.prog w = .ok (.bool a.isNone) w := fun w a n c n' c' => Lib.run_eql_slice_nil w _ _ a n c n' c' Tryz.underlying89
 cases ao with
 | none =>
  have h0 : l = [] := by
   cases l with
   | nil => rfl
   | cons z zs => obtain ⟨b, off, e, _⟩ := hcells 0 (by simp [ints]); cases e
  subst h0
  go_enter Tryz.func88, Tryz.ntmps88
  go_wp2
  go_ret
  exact ⟨_, rfl, Slc.nil _ _, Below.refl _ _⟩
 | some ad =>
  have hc : ∀ j u, (ints l)[j]? = some u → w.cell? (ad.add j) = some u := by
   intro j u hj
   obtain ⟨hj', e⟩ := List.getElem?_eq_some_iff.1 hj
   obtain ⟨b, off, e2, _, hcell⟩ := hcells j hj'
   obtain rfl := Option.some.inj e2
   rw [← e, Go.WideShapes.add_plain]; exact hcell
  have HC := Lib.hid hc
  have hone : Hid (∀ u ∈ ints l, u.oneCell' = true) := Lib.hid (by
   intro u hu
   simp only [ints, List.mem_map] at hu
   obtain ⟨z, _, rfl⟩ := hu
   rfl)
  have hown := World.ownsRow_lit (base := w.heap.size) (e := 2) (size := 1) w #[] 0 (Nat.le_refl _) (by unfold maxLen; omega) rfl
  have HO := Lib.hid hown
  have HL := Lib.hid (show (ints l).length = l.length * 1 by rw [ints_len, Nat.mul_one])
  clear hc hown hcells
  go_enter Tryz.func88, Tryz.ntmps88
  go_wp2_with (at_builtin; refine wpList_append_own _ rfl _ _ 89 rfl w.heap.size 2 i0 (.int .i64 0) 1 8 Tryz.underlying89 hi hz0 hz1 hz2 rfl (by decide) _ _ _ rfl HO.out ad l.length cap (ints l) rfl HL.out ?c1 hone.out ?c3 ?c4 ?c5 ?_)
  case c1 => exact fun j u hj => keep_alloc _ _ _ _ (HC.out j u hj)
  case c4 => omega
  intro v' w1 hown' hgrow _
  have HO1 := Lib.hid hown'
  have HB1 := Lib.hid (grown_below ((Below.refl w.heap.size w).alloc (Nat.le_refl _) _) HO.out (Nat.le_refl _) (by simp) hgrow)
  clear hown' hgrow
  go_wp2
  go_ret
  exact ⟨_, rfl, by have := Slc.owned HO1.out; simpa using this, HB1.out⟩

set_option maxHeartbeats 1000000 in
theorem CloneI32_calls {ok : Nat → Prop} (v : Value) (l : List Int) (w : World) (hv : Slc w ok v l.length (i32s l)) (hm0 : l.length ≤ 2000000) :
  Calls Tryz.prog 101 #[v] w fun e w' => ∃ v, e = .returned v ∧ Slc w' (fun b => w.heap.size ≤ b) v l.length (i32s l) ∧ Below w.heap.size w w' := by
 obtain ⟨i0, hi, hz0, hz1, hz2⟩ := info_parts info_i32
 obtain ⟨ao, cap, rfl, h1, h2, _, hcells⟩ := hv.opened
 have hm : l.length ≤ maxLen := by unfold maxLen; omega
 clear hv h1 h2
 have qT : ∀ (w : World) (a : Option Addr) (n c n' c' : Nat), (binOp .eql 102 (.slice a n c) (.slice none n' c')).run Tryz.prog w = .ok (.bool a.isNone) w := fun w a n c n' c' => Lib.run_eql_slice_nil w _ _ a n c n' c' Tryz.underlying102
 cases ao with
 | none =>
  have h0 : l = [] := by
   cases l with
   | nil => rfl
   | cons z zs => obtain ⟨b, off, e, _⟩ := hcells 0 (by simp [i32s]); cases e
  subst h0
  go_enter Tryz.func101, Tryz.ntmps101
  go_wp2
  go_ret
  exact ⟨_, rfl, Slc.nil _ _, Below.refl _ _⟩
 | some ad =>
  have hc : ∀ j u, (i32s l)[j]? = some u → w.cell? (ad.add j) = some u := by
   intro j u hj
   obtain ⟨hj', e⟩ := List.getElem?_eq_some_iff.1 hj
   obtain ⟨b, off, e2, _, hcell⟩ := hcells j hj'
   obtain rfl := Option.some.inj e2
   rw [← e, Go.WideShapes.add_plain]; exact hcell
  have HC := Lib.hid hc
  have hone : Hid (∀ u ∈ i32s l, u.oneCell' = true) := Lib.hid (by
   intro u hu
   simp only [i32s, List.mem_map] at hu
   obtain ⟨z, _, rfl⟩ := hu
   rfl)
  have hown := World.ownsRow_lit (base := w.heap.size) (e := 21) (size := 1) w #[] 0 (Nat.le_refl _) (by unfold maxLen; omega) rfl
  have HO := Lib.hid hown
  have HL := Lib.hid (show (i32s l).length = l.length * 1 by rw [i32s_len, Nat.mul_one])
  clear hc hown hcells
  go_enter Tryz.func101, Tryz.ntmps101
  go_wp2_with (at_builtin; refine wpList_append_own _ rfl _ _ 102 rfl w.heap.size 21 i0 (.int .i32 0) 1 4 Tryz.underlying102 hi hz0 hz1 hz2 rfl (by decide) _ _ _ rfl HO.out ad l.length cap (i32s l) rfl HL.out ?c1 hone.out ?c3 ?c4 ?c5 ?_)
  case c1 => exact fun j u hj => keep_alloc _ _ _ _ (HC.out j u hj)
  case c4 => omega
  intro v' w1 hown' hgrow _
  have HO1 := Lib.hid hown'
  have HB1 := Lib.hid (grown_below ((Below.refl w.heap.size w).alloc (Nat.le_refl _) _) HO.out (Nat.le_refl _) (by simp) hgrow)
  clear hown' hgrow
  go_wp2
  go_ret
  exact ⟨_, rfl, by have := Slc.owned HO1.out; simpa using this, HB1.out⟩

set_option maxHeartbeats 1000000 in
theorem CloneF_calls {ok : Nat → Prop} (v : Value) (l : List Nat) (w : World) (hv : Slc w ok v l.length (f64s l)) (hm0 : l.length ≤ 2000000) :
  Calls Tryz.prog 86 #[v] w fun e w' => ∃ v, e = .returned v ∧ Slc w' (fun b => w.heap.size ≤ b) v l.length (f64s l) ∧ Below w.heap.size w w' := by
 obtain ⟨i0, hi, hz0, hz1, hz2⟩ := info_parts info_f64
 obtain ⟨ao, cap, rfl, h1, h2, _, hcells⟩ := hv.opened
 have hm : l.length ≤ maxLen := by unfold maxLen; omega
 clear hv h1 h2
 have qT : ∀ (w : World) (a : Option Addr) (n c n' c' : Nat), (binOp .eql 52 (.slice a n c) (.slice none n' c')).run Tryz.prog w = .ok (.bool a.isNone) w := fun w a n c n' c' => Lib.run_eql_slice_nil w _ _ a n c n' c' Tryz.underlying52
 cases ao with
 | none =>
  have h0 : l = [] := by
   cases l with
   | nil => rfl
   | cons z zs => obtain ⟨b, off, e, _⟩ := hcells 0 (by simp [f64s]); cases e
  subst h0
  go_enter Tryz.func86, Tryz.ntmps86
  go_wp2
  go_ret
  exact ⟨_, rfl, Slc.nil _ _, Below.refl _ _⟩
 | some ad =>
  have hc : ∀ j u, (f64s l)[j]? = some u → w.cell? (ad.add j) = some u := by
   intro j u hj
   obtain ⟨hj', e⟩ := List.getElem?_eq_some_iff.1 hj
   obtain ⟨b, off, e2, _, hcell⟩ := hcells j hj'
   obtain rfl := Option.some.inj e2
   rw [← e, Go.WideShapes.add_plain]; exact hcell
  have HC := Lib.hid hc
  have hone : Hid (∀ u ∈ f64s l, u.oneCell' = true) := Lib.hid (by
   intro u hu
   simp only [f64s, List.mem_map] at hu
   obtain ⟨z, _, rfl⟩ := hu
   rfl)
  have hown := World.ownsRow_lit (base := w.heap.size) (e := 31) (size := 1) w #[] 0 (Nat.le_refl _) (by unfold maxLen; omega) rfl
  have HO := Lib.hid hown
  have HL := Lib.hid (show (f64s l).length = l.length * 1 by rw [f64s_len, Nat.mul_one])
  clear hc hown hcells
  go_enter Tryz.func86, Tryz.ntmps86
  go_wp2_with (at_builtin; refine wpList_append_own _ rfl _ _ 52 rfl w.heap.size 31 i0 (.float .f64 0) 1 8 Tryz.underlying52 hi hz0 hz1 hz2 rfl (by decide) _ _ _ rfl HO.out ad l.length cap (f64s l) rfl HL.out ?c1 hone.out ?c3 ?c4 ?c5 ?_)
  case c1 => exact fun j u hj => keep_alloc _ _ _ _ (HC.out j u hj)
  case c4 => omega
  intro v' w1 hown' hgrow _
  have HO1 := Lib.hid hown'
  have HB1 := Lib.hid (grown_below ((Below.refl w.heap.size w).alloc (Nat.le_refl _) _) HO.out (Nat.le_refl _) (by simp) hgrow)
  clear hown' hgrow
  go_wp2
  go_ret
  exact ⟨_, rfl, by have := Slc.owned HO1.out; simpa using this, HB1.out⟩

set_option maxHeartbeats 1000000 in
theorem CloneInt_calls {ok : Nat → Prop} (v : Value) (l : List Int) (w : World) (hv : Slc w ok v l.length (ints l)) (hm0 : l.length ≤ 2000000) :
  Calls Tryz.prog 72 #[v] w fun e w' => ∃ v, e = .returned v ∧ Slc w' (fun b => w.heap.size ≤ b) v l.length (ints l) ∧ Below w.heap.size w w' := by
 obtain ⟨i0, hi, hz0, hz1, hz2⟩ := info_parts info_int
 obtain ⟨ao, cap, rfl, h1, h2, _, hcells⟩ := hv.opened
 have hm : l.length ≤ maxLen := by unfold maxLen; omega
 clear hv h1 h2
 have qT : ∀ (w : World) (a : Option Addr) (n c n' c' : Nat), (binOp .eql 22 (.slice a n c) (.slice none n' c')).run Tryz.prog w = .ok (.bool a.isNone) w := fun w a n c n' c' => Lib.run_eql_slice_nil w _ _ a n c n' c' Tryz.underlying22
 cases ao with
 | none =>
  have h0 : l = [] := by
   cases l with
   | nil => rfl
   | cons z zs => obtain ⟨b, off, e, _⟩ := hcells 0 (by simp [ints]); cases e
  subst h0
  go_enter Tryz.func72, Tryz.ntmps72
  go_wp2
  go_ret
  exact ⟨_, rfl, Slc.nil _ _, Below.refl _ _⟩
 | some ad =>
  have hc : ∀ j u, (ints l)[j]? = some u → w.cell? (ad.add j) = some u := by
   intro j u hj
   obtain ⟨hj', e⟩ := List.getElem?_eq_some_iff.1 hj
   obtain ⟨b, off, e2, _, hcell⟩ := hcells j hj'
   obtain rfl := Option.some.inj e2
   rw [← e, Go.WideShapes.add_plain]; exact hcell
  have HC := Lib.hid hc
  have hone : Hid (∀ u ∈ ints l, u.oneCell' = true) := Lib.hid (by
   intro u hu
   simp only [ints, List.mem_map] at hu
   obtain ⟨z, _, rfl⟩ := hu
   rfl)
  have hown := World.ownsRow_lit (base := w.heap.size) (e := 3) (size := 1) w #[] 0 (Nat.le_refl _) (by unfold maxLen; omega) rfl
  have HO := Lib.hid hown
  have HL := Lib.hid (show (ints l).length = l.length * 1 by rw [ints_len, Nat.mul_one])
  clear hc hown hcells
  go_enter Tryz.func72, Tryz.ntmps72
  go_wp2_with (at_builtin; refine wpList_append_own _ rfl _ _ 22 rfl w.heap.size 3 i0 (.int .i64 0) 1 8 Tryz.underlying22 hi hz0 hz1 hz2 rfl (by decide) _ _ _ rfl HO.out ad l.length cap (ints l) rfl HL.out ?c1 hone.out ?c3 ?c4 ?c5 ?_)
  case c1 => exact fun j u hj => keep_alloc _ _ _ _ (HC.out j u hj)
  case c4 => omega
  intro v' w1 hown' hgrow _
  have HO1 := Lib.hid hown'
  have HB1 := Lib.hid (grown_below ((Below.refl w.heap.size w).alloc (Nat.le_refl _) _) HO.out (Nat.le_refl _) (by simp) hgrow)
  clear hown' hgrow
  go_wp2
  go_ret
  exact ⟨_, rfl, by have := Slc.owned HO1.out; simpa using this, HB1.out⟩
end Go.Proofs.YtbdhibcbpgjbmaaGreatDoor
